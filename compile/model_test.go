package compile_test

import (
	"fmt"
	"math"
	"math/rand"
	"slices"
	"testing"

	"overwinter/api"
	"overwinter/code"
	"overwinter/compile"
)

// model: the instructions of a program, told in another way: how many there are is reckoned ahead, so that each place is known when it is told.
func model(p api.Program) []compile.Ins {
	return append(modelList(p.Vars, p.Body, 0), compile.Ins{Op: 16})
}

// from: how many cells the variables ahead of one have.
func from(l []api.Var, v int) int {
	n := 0
	for _, x := range l[:v] {
		n += x.Size
	}
	return n
}

func exprCount(e api.Expr) int {
	n := 1
	for _, x := range e.L {
		n += exprCount(x)
	}
	return n
}

func listCount(l []api.Stmt) int {
	n := 0
	for _, s := range l {
		n += stmtCount(s)
	}
	return n
}

func stmtCount(s api.Stmt) int {
	switch s.Op {
	case api.SRead, api.SCommit:
		return 1
	case api.SPut:
		return exprCount(s.E) + exprCount(s.F) + 1
	case api.SWhile, api.SIf:
		return exprCount(s.E) + 2 + listCount(s.Body) + listCount(s.Else)
	}
	return exprCount(s.E) + 1
}

func modelExpr(l []api.Var, e api.Expr) []compile.Ins {
	switch e.Op {
	case api.ENum:
		return []compile.Ins{{Op: 1, N: e.N}}
	case api.EVar:
		return []compile.Ins{{Op: 2, A: from(l, e.V)}}
	case api.EGet:
		return append(modelExpr(l, e.L[0]), compile.Ins{Op: 3, A: from(l, e.V), B: l[e.V].Size})
	}
	return slices.Concat(modelExpr(l, e.L[0]), modelExpr(l, e.L[1]), []compile.Ins{{Op: e.Op}})
}

func modelList(l []api.Var, body []api.Stmt, at int) []compile.Ins {
	var out []compile.Ins
	for _, s := range body {
		out = append(out, modelStmt(l, s, at+len(out))...)
	}
	return out
}

func modelStmt(l []api.Var, s api.Stmt, at int) []compile.Ins {
	only := func(op, a, b int) []compile.Ins { return []compile.Ins{{Op: op, A: a, B: b}} }
	switch s.Op {
	case api.SSet:
		return append(modelExpr(l, s.E), only(9, from(l, s.V), 0)...)
	case api.SPut:
		return slices.Concat(modelExpr(l, s.E), modelExpr(l, s.F), only(10, from(l, s.V), l[s.V].Size))
	case api.SPrint:
		return append(modelExpr(l, s.E), only(11, 0, 0)...)
	case api.SRead:
		return only(12, from(l, s.V), 0)
	case api.SCommit:
		return only(15, 0, 0)
	}
	behind := at + stmtCount(s)
	body := at + exprCount(s.E) + 1
	other := body + listCount(s.Body) + 1
	if s.Op == api.SWhile {
		return slices.Concat(modelExpr(l, s.E), only(13, behind, 0), modelList(l, s.Body, body), only(14, at, 0))
	}
	return slices.Concat(modelExpr(l, s.E), only(13, other, 0), modelList(l, s.Body, body), only(14, behind, 0), modelList(l, s.Else, other))
}

// maker makes programs of few parts, all of them.
type maker struct {
	exprs [][]api.Expr   // by the number of their parts
	lists [][][]api.Stmt // likewise
	stmts [][]api.Stmt
}

func newMaker(parts int) *maker {
	m := &maker{exprs: make([][]api.Expr, parts+1), lists: make([][][]api.Stmt, parts+1), stmts: make([][]api.Stmt, parts+1)}
	m.lists[0] = [][]api.Stmt{nil}
	for n := 1; n <= parts; n++ {
		m.exprs[n] = m.exprsOf(n)
		m.stmts[n] = m.stmtsOf(n)
		for i := 1; i <= n; i++ {
			for _, s := range m.stmts[i] {
				for _, l := range m.lists[n-i] {
					m.lists[n] = append(m.lists[n], slices.Concat(list(s), l))
				}
			}
		}
	}
	return m
}

func (m *maker) exprsOf(n int) []api.Expr {
	if n == 1 {
		return []api.Expr{num(0), num(-1), first(0), first(1)}
	}
	var out []api.Expr
	for _, e := range m.exprs[n-1] {
		out = append(out, get(0, e), get(1, e))
	}
	m.pairs(n-1, func(a, b api.Expr) {
		for op := api.EAdd; op <= api.ESame; op++ {
			out = append(out, two(op, a, b))
		}
	})
	return out
}

// pairs: of expressions that have so many parts together.
func (m *maker) pairs(n int, do func(a, b api.Expr)) {
	for i := 1; i < n; i++ {
		for _, a := range m.exprs[i] {
			for _, b := range m.exprs[n-i] {
				do(a, b)
			}
		}
	}
}

func (m *maker) stmtsOf(n int) []api.Stmt {
	if n == 1 {
		return list(read(0), read(1), commit())
	}
	var out []api.Stmt
	for _, e := range m.exprs[n-1] {
		out = append(out, set(0, e), set(1, e), tell(e))
	}
	m.pairs(n-1, func(a, b api.Expr) { out = append(out, put(0, a, b), put(1, a, b)) })
	for i := 1; i < n; i++ {
		for _, e := range m.exprs[i] {
			for _, body := range m.lists[n-1-i] {
				out = append(out, while(e, body...))
			}
			for j := range n - i {
				for _, body := range m.lists[j] {
					for _, other := range m.lists[n-1-i-j] {
						out = append(out, either(e, body, other))
					}
				}
			}
		}
	}
	return out
}

// programsOf: all that have at most so many parts, with two variables.
func programsOf(parts int) []api.Program {
	var out []api.Program
	for _, l := range newMaker(parts).lists {
		for _, body := range l {
			out = append(out, api.Program{Vars: vars(one("a", 2), one("bc", 3)), Body: body})
		}
	}
	return out
}

// wantModel: the instructions are the model's, and hold to what all of them hold to.
func wantModel(t *testing.T, p api.Program) {
	t.Helper()
	want := model(p)
	wantList(t, p, want)
	got, _ := compile.Make(p)
	if len(got) != len(want) {
		return // it is told by now
	}
	cells := code.Cells(p)
	for at, x := range got {
		jumps := x.Op == compile.IElse || x.Op == compile.IJump
		indexed := x.Op == compile.IGet || x.Op == compile.IPut
		named := indexed || x.Op == compile.IVar || x.Op == compile.ISet || x.Op == compile.IRead
		switch {
		case x.Op < 1 || x.Op > 16, x.Op != compile.INum && x.N != 0, !jumps && !named && x.A != 0, !indexed && x.B != 0:
			t.Errorf("%v: instruction %d is %v: what is not said is not 0", p, at, x)
		case (x.Op == compile.IHalt) != (at == len(got)-1):
			t.Errorf("%v: instruction %d of %d is %v: IHalt is the last one, and stands once", p, at, len(got), x)
		case jumps && (x.A < 0 || x.A >= len(got)), x.Op == compile.IElse && x.A <= at+1:
			t.Errorf("%v: instruction %d of %d leads to %d", p, at, len(got), x.A)
		case named && (x.A < 0 || x.A >= cells), indexed && (x.B < 1 || x.A+x.B > cells):
			t.Errorf("%v: instruction %d is %v: not of %d cells", p, at, x, cells)
		}
	}
}

// TestAllSmallPrograms: no two of them have the same instructions, since no two of their variables have the same cells.
func TestAllSmallPrograms(t *testing.T) {
	met := map[string]int{}
	all := programsOf(4)
	for i, p := range all {
		wantModel(t, p)
		l, _ := compile.Make(p)
		s := fmt.Sprint(l)
		if j, ok := met[s]; ok {
			t.Errorf("%s: of program %d and of %d", s, i, j)
		}
		met[s] = i
	}
	if len(all) < 2000 {
		t.Errorf("only %d programs", len(all))
	}
}

// chance makes programs by chance.
type chance struct {
	*rand.Rand
	vars int
	left int // so many parts may still come
}

func newChance(i, parts int) *chance {
	return &chance{Rand: rand.New(rand.NewSource(int64(i))), left: parts}
}

func (c *chance) number() int64 {
	switch c.Intn(4) {
	case 0:
		return []int64{0, 1, -1, math.MaxInt64, math.MinInt64, math.MinInt64 + 1, 1 << 32, -1 << 31}[c.Intn(8)]
	case 1:
		return int64(c.Uint64())
	}
	return c.Int63n(201) - 100
}

func (c *chance) expr(deep int) api.Expr {
	c.left--
	op := 1 + c.Intn(api.ESame)
	if deep >= api.MaxDeep || c.left < 4 {
		op = api.ENum
	}
	switch {
	case op == api.EVar && c.vars > 0:
		return first(c.Intn(c.vars))
	case op == api.EGet && c.vars > 0:
		return get(c.Intn(c.vars), c.expr(deep+1))
	case op >= api.EAdd:
		c.left-- // the second one must have room, too
		a := c.expr(deep + 1)
		c.left++
		return two(op, a, c.expr(deep+1))
	}
	return num(c.number())
}

func (c *chance) stmt(deep int) api.Stmt {
	c.left--
	op := 1 + c.Intn(api.SCommit)
	if deep >= api.MaxDeep {
		op = api.SCommit
	}
	switch {
	case op == api.SSet && c.vars > 0:
		return set(c.Intn(c.vars), c.expr(deep+1))
	case op == api.SPut && c.vars > 0:
		return put(c.Intn(c.vars), c.expr(deep+1), c.expr(deep+1))
	case op == api.SRead && c.vars > 0:
		return read(c.Intn(c.vars))
	case op == api.SPrint:
		return tell(c.expr(deep + 1))
	case op == api.SWhile:
		return while(c.expr(deep+1), c.list(deep+1, 4)...)
	case op == api.SIf:
		return either(c.expr(deep+1), c.list(deep+1, 3), c.list(deep+1, 3))
	}
	return commit()
}

func (c *chance) list(deep, most int) []api.Stmt {
	var l []api.Stmt
	for range c.Intn(most + 1) {
		if c.left > 6 {
			l = append(l, c.stmt(deep))
		}
	}
	return l
}

func (c *chance) program() api.Program {
	c.vars = c.Intn(api.MaxVars + 1)
	var sizes []int
	for range c.vars {
		sizes = append(sizes, 1+c.Intn(6))
	}
	return api.Program{Vars: sized(sizes...), Body: c.list(0, 40)}
}

func TestAnyPrograms(t *testing.T) {
	long := 0
	for i := range 3000 {
		p := newChance(i, api.MaxParts).program()
		if k := code.Check(p); k != 0 {
			t.Fatalf("program %d is none: %d", i, k)
		}
		wantModel(t, p)
		long = max(long, len(model(p)))
	}
	if long < 120 {
		t.Errorf("the longest program has %d instructions: want more", long)
	}
}

// moved: instructions whose places are so many further on.
func moved(l []compile.Ins, by int) []compile.Ins {
	out := slices.Clone(l)
	for i := range out {
		if out[i].Op == compile.IElse || out[i].Op == compile.IJump {
			out[i].A += by
		}
	}
	return out
}

// TestPieces: the instructions of a program are those of its statements, one behind the other.
func TestPieces(t *testing.T) {
	for i := range 500 {
		p := newChance(i, api.MaxParts).program()
		var want []compile.Ins
		for _, s := range p.Body {
			l, _ := compile.Make(api.Program{Vars: p.Vars, Body: list(s)})
			want = append(want, moved(l[:len(l)-1], len(want))...)
		}
		wantList(t, p, append(want, compile.Ins{Op: compile.IHalt}))
	}
}
