package render_test

import (
	"fmt"
	"math"
	"math/rand"
	"slices"
	"strings"
	"testing"

	"overwinter/api"
	"overwinter/code"
	"overwinter/parse"
	"overwinter/render"
)

// words and verbs: as the document lists them.
var (
	words = strings.Fields("- num var get add sub mul less same")
	verbs = strings.Fields("- set put print read while if commit")
)

// model: the text of a program, told in another way: words with a blank between each, and then those taken out that may not be.
func model(p api.Program) string {
	var b strings.Builder
	for _, x := range p.Vars {
		fmt.Fprintf(&b, "let %s %d\n", x.Name, x.Size)
	}
	for _, s := range p.Body {
		line := strings.Join(stmtWords(p.Vars, s), " ")
		b.WriteString(strings.ReplaceAll(strings.ReplaceAll(line, "( ", "("), " )", ")") + "\n")
	}
	return b.String()
}

func stmtWords(l []api.Var, s api.Stmt) []string {
	out := []string{"(", verbs[s.Op]}
	if s.Op == api.SSet || s.Op == api.SPut || s.Op == api.SRead {
		out = append(out, l[s.V].Name)
	}
	for _, e := range []api.Expr{s.E, s.F} {
		if e.Op != 0 {
			out = append(out, exprWords(l, e)...)
		}
	}
	if s.Op == api.SWhile || s.Op == api.SIf {
		out = append(out, listWords(l, s.Body)...)
	}
	if s.Op == api.SIf {
		out = append(out, listWords(l, s.Else)...)
	}
	return append(out, ")")
}

func listWords(l []api.Var, body []api.Stmt) []string {
	out := []string{"("}
	for _, s := range body {
		out = append(out, stmtWords(l, s)...)
	}
	return append(out, ")")
}

func exprWords(l []api.Var, e api.Expr) []string {
	out := []string{"(", words[e.Op]}
	if e.Op == api.ENum {
		out = append(out, fmt.Sprint(e.N))
	}
	if e.Op == api.EVar || e.Op == api.EGet {
		out = append(out, l[e.V].Name)
	}
	for _, x := range e.L {
		out = append(out, exprWords(l, x)...)
	}
	return append(out, ")")
}

// wantBack: the text is the model's, the program is what it is parsed to, and that is printed as the same text.
func wantBack(t *testing.T, p api.Program) string {
	t.Helper()
	s, f := render.Print(p)
	if want := model(p); f != (api.Fault{}) || s != want {
		t.Errorf("%v: %s %v, want %s and no fault", p, short(s), f, short(want))
	}
	q, f := parse.Parse(s)
	if f != (api.Fault{}) || !code.Same(p, q) {
		t.Errorf("%s: parsed to %v %v, want %v", short(s), q, f, p)
	}
	wantText(t, q, s)
	return s
}

// maker makes programs of few parts, all of them.
type maker struct {
	exprs [][]api.Expr   // by the number of their parts
	lists [][][]api.Stmt // likewise
	stmts [][]api.Stmt
}

func newMaker(parts int) *maker {
	m := &maker{exprs: make([][]api.Expr, parts+1), lists: make([][][]api.Stmt, parts+1), stmts: make([][]api.Stmt, parts+1)}
	m.lists[0] = [][]api.Stmt{nil}
	for n := 1; n <= parts; n++ {
		m.exprs[n] = m.exprsOf(n)
		m.stmts[n] = m.stmtsOf(n)
		for i := 1; i <= n; i++ {
			for _, s := range m.stmts[i] {
				for _, l := range m.lists[n-i] {
					m.lists[n] = append(m.lists[n], slices.Concat(list(s), l))
				}
			}
		}
	}
	return m
}

func (m *maker) exprsOf(n int) []api.Expr {
	if n == 1 {
		return []api.Expr{num(0), num(1), num(-1), first(0), first(1)}
	}
	var out []api.Expr
	for _, e := range m.exprs[n-1] {
		out = append(out, get(0, e), get(1, e))
	}
	m.pairs(n-1, func(a, b api.Expr) {
		for op := api.EAdd; op <= api.ESame; op++ {
			out = append(out, two(op, a, b))
		}
	})
	return out
}

// pairs: of expressions that have so many parts together.
func (m *maker) pairs(n int, do func(a, b api.Expr)) {
	for i := 1; i < n; i++ {
		for _, a := range m.exprs[i] {
			for _, b := range m.exprs[n-i] {
				do(a, b)
			}
		}
	}
}

func (m *maker) stmtsOf(n int) []api.Stmt {
	if n == 1 {
		return list(read(0), read(1), commit())
	}
	var out []api.Stmt
	for _, e := range m.exprs[n-1] {
		out = append(out, set(0, e), set(1, e), tell(e))
	}
	m.pairs(n-1, func(a, b api.Expr) { out = append(out, put(0, a, b), put(1, a, b)) })
	for i := 1; i < n; i++ {
		for _, e := range m.exprs[i] {
			for _, body := range m.lists[n-1-i] {
				out = append(out, while(e, body...))
			}
			for j := range n - i {
				for _, body := range m.lists[j] {
					for _, other := range m.lists[n-1-i-j] {
						out = append(out, either(e, body, other))
					}
				}
			}
		}
	}
	return out
}

// programs: all of few parts, with two variables.
func programs() []api.Program { return programsOf(3) }

func programsOf(parts int) []api.Program {
	var out []api.Program
	for _, l := range newMaker(parts).lists {
		for _, body := range l {
			out = append(out, api.Program{Vars: vars(one("a", 2), one("bc", 1)), Body: body})
		}
	}
	return out
}

// TestAllSmallPrograms: no two of them have one text.
func TestAllSmallPrograms(t *testing.T) {
	met := map[string]int{}
	all := programsOf(4)
	for i, p := range all {
		s := wantBack(t, p)
		if j, ok := met[s]; ok {
			t.Errorf("%s: of program %d and of %d", short(s), i, j)
		}
		met[s] = i
	}
	if len(all) < 2000 {
		t.Errorf("only %d programs", len(all))
	}
}

// chance makes programs by chance.
type chance struct {
	*rand.Rand
	vars int
	left int // so many parts may still come
}

func (c *chance) number() int64 {
	switch c.Intn(4) {
	case 0:
		return []int64{0, 1, -1, math.MaxInt64, math.MinInt64, math.MinInt64 + 1, 1 << 32, -1 << 31}[c.Intn(8)]
	case 1:
		return int64(c.Uint64())
	}
	return c.Int63n(201) - 100
}

func (c *chance) expr(deep int) api.Expr {
	c.left--
	op := 1 + c.Intn(api.ESame)
	if deep >= api.MaxDeep || c.left < 4 {
		op = api.ENum
	}
	switch {
	case op == api.EVar && c.vars > 0:
		return first(c.Intn(c.vars))
	case op == api.EGet && c.vars > 0:
		return get(c.Intn(c.vars), c.expr(deep+1))
	case op >= api.EAdd:
		c.left-- // the second one must have room, too
		a := c.expr(deep + 1)
		c.left++
		return two(op, a, c.expr(deep+1))
	}
	return num(c.number())
}

func (c *chance) stmt(deep int) api.Stmt {
	c.left--
	op := 1 + c.Intn(api.SCommit)
	if deep >= api.MaxDeep {
		op = api.SCommit
	}
	switch {
	case op == api.SSet && c.vars > 0:
		return set(c.Intn(c.vars), c.expr(deep+1))
	case op == api.SPut && c.vars > 0:
		return put(c.Intn(c.vars), c.expr(deep+1), c.expr(deep+1))
	case op == api.SRead && c.vars > 0:
		return read(c.Intn(c.vars))
	case op == api.SPrint:
		return tell(c.expr(deep + 1))
	case op == api.SWhile:
		return while(c.expr(deep+1), c.list(deep+1, 4)...)
	case op == api.SIf:
		return either(c.expr(deep+1), c.list(deep+1, 3), c.list(deep+1, 3))
	}
	return commit()
}

func (c *chance) list(deep, most int) []api.Stmt {
	var l []api.Stmt
	for range c.Intn(most + 1) {
		if c.left > 6 {
			l = append(l, c.stmt(deep))
		}
	}
	return l
}

func (c *chance) program() api.Program {
	names := []string{"let", "a", "b", "ab", "abcdefgh", "zzzzzzzz", "num", "commit", "x", "while", "same", "q"}
	c.Shuffle(len(names), func(i, j int) { names[i], names[j] = names[j], names[i] })
	c.vars = c.Intn(api.MaxVars + 1)
	var p api.Program
	for _, name := range names[:c.vars] {
		p.Vars = append(p.Vars, one(name, 1+c.Intn(6)))
	}
	p.Body = c.list(0, 40)
	return p
}

// TestAnyPrograms: there and back; and each line by itself.
func TestAnyPrograms(t *testing.T) {
	met := map[string]api.Program{}
	long := 0
	for i := range 3000 {
		c := &chance{Rand: rand.New(rand.NewSource(int64(i))), left: api.MaxParts}
		p := c.program()
		if k := code.Check(p); k != 0 {
			t.Fatalf("program %d is none: %d", i, k)
		}
		s := wantBack(t, p)
		if q, ok := met[s]; ok && !code.Same(p, q) {
			t.Errorf("%s: of two programs that are not the same", short(s))
		}
		met[s] = p
		long = max(long, len(s))
		wantTidy(t, p, s)
	}
	if len(met) < 2500 || long < 1500 {
		t.Errorf("%d texts, the longest of %d bytes: want more", len(met), long)
	}
}

// wantTidy: a line each, and blanks just where they may stand.
func wantTidy(t *testing.T, p api.Program, s string) {
	t.Helper()
	if n := strings.Count(s, "\n"); n != len(p.Vars)+len(p.Body) || n > 0 && !strings.HasSuffix(s, "\n") {
		t.Errorf("%s: %d lines, want %d variables and %d statements", short(s), n, len(p.Vars), len(p.Body))
	}
	for _, not := range []string{"  ", "( ", " )", "\n ", " \n", "\n\n", "\t", "\r", ")(", "\n)", "(\n"} {
		if strings.Contains(s, not) {
			t.Errorf("%s: %q stands in it", short(s), not)
		}
	}
}

// TestPiecesOfLines: the text of a program is those of its statements, one behind the other.
func TestPiecesOfLines(t *testing.T) {
	for i := range 300 {
		c := &chance{Rand: rand.New(rand.NewSource(int64(i))), left: api.MaxParts}
		p := c.program()
		want, _ := render.Print(api.Program{Vars: p.Vars})
		ahead := len(want)
		for _, s := range p.Body {
			line, _ := render.Print(api.Program{Vars: p.Vars, Body: list(s)})
			want += line[ahead:]
		}
		wantText(t, p, want)
	}
}

// changes: each makes a program another one, at one of its places; a number is turned to one beside it.
func changes(p *api.Program) []func() {
	var out []func()
	add := func(do func()) { out = append(out, do) }
	for i := range p.Vars {
		x := &p.Vars[i]
		add(func() { x.Size++ })
		add(func() { x.Size-- })
		add(func() { x.Name += "x" })
		add(func() { x.Name = "y" + x.Name[1:] })
	}
	add(func() { p.Vars = append(p.Vars, one("new", 1)) })
	add(func() { slices.Reverse(p.Vars) })
	changeBody(&p.Body, add)
	return out
}

func changeBody(l *[]api.Stmt, add func(func())) {
	add(func() { *l = append(*l, commit()) })
	add(func() { *l = append(list(commit()), *l...) })
	add(func() { *l = (*l)[:len(*l)/2] })
	add(func() { slices.Reverse(*l) })
	for i := range *l {
		s := &(*l)[i]
		add(func() { s.Op++ })
		add(func() { s.Op-- })
		add(func() { s.V++ })
		add(func() { s.V-- })
		add(func() { s.E, s.F = s.F, s.E })
		add(func() { s.Body, s.Else = s.Else, s.Body })
		add(func() { *l = slices.Insert(*l, i, *s) })
		add(func() { *l = slices.Concat((*l)[:i], s.Body, (*l)[i+1:]) })
		changeExpr(&s.E, add)
		changeExpr(&s.F, add)
		changeBody(&s.Body, add)
		changeBody(&s.Else, add)
	}
}

func changeExpr(e *api.Expr, add func(func())) {
	for _, by := range []int{1, -1, 3} {
		add(func() { e.Op += by })
		add(func() { e.V += by })
		add(func() { e.N += int64(by) })
	}
	add(func() { e.N = -e.N })
	add(func() { e.N ^= math.MinInt64 })
	add(func() { slices.Reverse(e.L) })
	for i := range e.L {
		add(func() { *e = e.L[i] })
		changeExpr(&e.L[i], add)
	}
}

// TestOneChange: what is the same has the same text, what is not has another one, what is no program has none.
func TestOneChange(t *testing.T) {
	told := map[string]int{}
	all := []api.Program{rich(), {Vars: abc(), Body: list(read(1), put(1, num(1), first(2)))}}
	for i := range 30 {
		c := &chance{Rand: rand.New(rand.NewSource(int64(i))), left: 60}
		all = append(all, c.program())
	}
	for i, p := range all {
		s, _ := render.Print(p)
		for j := range changes(&p) {
			q := withNils(p)
			changes(&q)[j]()
			name := fmt.Sprint("program ", i, ", change ", j)
			if k := code.Check(q); k != 0 {
				wantFault(t, name, q, k)
				told["none"]++
				continue
			}
			same := code.Same(p, q)
			if got := wantBack(t, q); (got == s) != same {
				t.Errorf("%s: %s, and it was %s: the same: %v", name, short(got), short(s), same)
			}
			told[fmt.Sprint(same)]++
		}
	}
	for _, what := range []string{"none", "true", "false"} {
		if told[what] < 500 {
			t.Errorf("%v: too few of %s", told, what)
		}
	}
}
