package ideal_test

import (
	"fmt"
	"math/rand"
	"slices"
	"testing"

	"overwinter/api"
	"overwinter/code"
	"overwinter/compile"
	"overwinter/disk"
	"overwinter/ideal"
	"overwinter/machine"
	"overwinter/memory"
	"overwinter/store"
)

// newMachine: of the instructions of a program, on a new disk.
func newMachine(t *testing.T, p api.Program, input []int64) *machine.Machine {
	t.Helper()
	l, c := compile.Make(p)
	if c != 0 {
		t.Fatalf("a test is written wrong: %d of %v", c, p)
	}
	return machine.New(memory.New(store.Open(disk.New())), l, input, &machine.Printer{})
}

// wantMachine: with so much fuel, and with each below it, a program comes to what its instructions come to on a machine, and takes as many. It tells the code.
func wantMachine(t *testing.T, name string, p api.Program, input []int64, fuel int) int {
	t.Helper()
	m := newMachine(t, p, input)
	cells := code.Cells(p)
	took := 0
	for f := range fuel + 1 {
		if f > 0 && m.Step() {
			took++
		}
		want := m.Result(cells)
		got, n, c := ideal.Run(p, input, f)
		if !sameResult(got, want) || n != took || c != 0 {
			t.Fatalf("%s: fuel %d: %v, it took %d, code %d; the machine: %v, %d; of %v with %v", name, f, got, n, c, want, took, p, input)
		}
		if f > took+2 {
			break // it is at its end
		}
	}
	want := m.Result(cells)
	if got, n, c := ideal.Run(p, input, api.MaxFuel); want.Code != api.ErrFuel && (!sameResult(got, want) || n != took || c != 0) {
		t.Fatalf("%s: fuel of MaxFuel: %v, it took %d, code %d; the machine: %v, %d", name, got, n, c, want, took)
	}
	return want.Code
}

// TestOnAMachine: programs that are written, with each fuel to the greatest.
func TestOnAMachine(t *testing.T) {
	for _, text := range []string{
		"",
		"let a 48",
		"(print (num 5)) (commit)",
		"(while (num 1) ())",
		"let a 1 let s 1 (read a) (while (var a) ((set s (add (var s) (var a))) (commit) (read a))) (print (var s))",
		"let a 3 let i 1 (while (num 1) ((put a (var i) (mul (var i) (var i))) (print (get a (var i))) (set i (add (var i) (num 1)))))",
		"let n 1 (set n (num 27)) (while (sub (var n) (num 1)) ((print (var n)) (if (less (mul (num 3) (var n)) (num 500)) ((set n (add (mul (num 3) (var n)) (num 1))) (commit)) ((set n (sub (var n) (num 499)))))))",
		"let a 8 let i 1 (while (less (var i) (num 8)) ((read a) (put a (var i) (sub (var a) (var i))) (set i (add (var i) (num 1))) (if (same (get a (num 3)) (num 1)) ((print (var i)) (commit)) ((print (num -1))))))",
	} {
		p := program(t, text)
		for n := range 10 {
			wantMachine(t, text, p, nums(4, -1, 9, 0, 2, 0, 1, 3, 3)[:n], api.MaxFuel)
		}
	}
}

// smalls makes all lists of statements of at most so many parts.
type smalls struct {
	exprs [][]api.Expr // by the number of their parts
	lists [][][]api.Stmt
}

func newSmalls(parts int) *smalls {
	m := &smalls{exprs: make([][]api.Expr, parts+1), lists: make([][][]api.Stmt, parts+1)}
	m.lists[0] = [][]api.Stmt{nil}
	stmts := make([][]api.Stmt, parts+1)
	for n := 1; n <= parts; n++ {
		m.exprs[n] = m.exprsOf(n)
		stmts[n] = m.stmtsOf(n)
		for i := 1; i <= n; i++ {
			for _, s := range stmts[i] {
				for _, l := range m.lists[n-i] {
					m.lists[n] = append(m.lists[n], slices.Concat(list(s), l))
				}
			}
		}
	}
	return m
}

func (m *smalls) exprsOf(n int) []api.Expr {
	if n == 1 {
		return []api.Expr{num(0), num(2), first(0), first(1)}
	}
	var out []api.Expr
	for _, e := range m.exprs[n-1] {
		out = append(out, get(0, e), get(1, e))
	}
	m.pairs(n-1, func(a, b api.Expr) {
		for op := api.EAdd; op <= api.ESame; op++ {
			out = append(out, two(op, a, b))
		}
	})
	return out
}

// pairs: of expressions that have so many parts together.
func (m *smalls) pairs(n int, do func(a, b api.Expr)) {
	for i := 1; i < n; i++ {
		for _, a := range m.exprs[i] {
			for _, b := range m.exprs[n-i] {
				do(a, b)
			}
		}
	}
}

func (m *smalls) stmtsOf(n int) []api.Stmt {
	if n == 1 {
		return list(read(0), read(1), commit())
	}
	var out []api.Stmt
	for _, e := range m.exprs[n-1] {
		out = append(out, set(0, e), set(1, e), tell(e))
	}
	m.pairs(n-1, func(a, b api.Expr) { out = append(out, put(0, a, b), put(1, a, b)) })
	for i := 1; i < n; i++ {
		for _, e := range m.exprs[i] {
			for _, body := range m.lists[n-1-i] {
				out = append(out, while(e, body...))
			}
			for j := range n - i {
				for _, body := range m.lists[j] {
					for _, other := range m.lists[n-1-i-j] {
						out = append(out, either(e, body, other))
					}
				}
			}
		}
	}
	return out
}

// TestAllSmallPrograms: of two variables, with one number to be read.
func TestAllSmallPrograms(t *testing.T) {
	n := 0
	for _, l := range newSmalls(4).lists {
		for _, body := range l {
			wantMachine(t, "small", api.Program{Vars: []api.Var{one("a", 2), one("b", 3)}, Body: body}, nums(1), 25)
			n++
		}
	}
	if n < 2000 {
		t.Errorf("only %d programs", n)
	}
}

// chance makes programs by chance, in which what goes on often ends.
type chance struct {
	*rand.Rand
	vars int
	left int // so many parts may still come
}

func (c *chance) number() int64 {
	switch c.Intn(8) {
	case 0:
		return edges()[c.Intn(len(edges()))]
	case 1:
		return int64(c.Uint64())
	}
	return c.Int63n(5) - 1
}

func (c *chance) expr(deep int) api.Expr {
	c.left--
	op := 1 + c.Intn(api.ESame)
	if deep >= api.MaxDeep || c.left < 8 {
		op = api.ENum + c.Intn(2)
	}
	switch {
	case op >= api.EAdd:
		return two(op, c.expr(deep+1), c.expr(deep+1))
	case op == api.EGet:
		return get(c.Intn(c.vars), c.index(deep+1))
	case op == api.EVar:
		return first(c.Intn(c.vars))
	}
	return num(c.number())
}

// index: most often a number that says a cell.
func (c *chance) index(deep int) api.Expr {
	if c.Intn(4) == 0 {
		return c.expr(deep)
	}
	c.left--
	return num(c.Int63n(2))
}

func (c *chance) stmt(deep int) api.Stmt {
	c.left--
	op := 1 + c.Intn(api.SCommit)
	if deep >= api.MaxDeep {
		op = api.SCommit
	}
	switch op {
	case api.SSet:
		return set(c.Intn(c.vars), c.expr(deep+1))
	case api.SPut:
		return put(c.Intn(c.vars), c.index(deep+1), c.expr(deep+1))
	case api.SPrint:
		return tell(c.expr(deep + 1))
	case api.SRead:
		return read(c.Intn(c.vars))
	case api.SWhile:
		return while(c.expr(deep+1), c.list(deep+1, 4)...)
	case api.SIf:
		return either(c.expr(deep+1), c.list(deep+1, 4), c.list(deep+1, 3))
	}
	return commit()
}

func (c *chance) list(deep, most int) []api.Stmt {
	var l []api.Stmt
	for range c.Intn(most + 1) {
		if c.left > 30 {
			l = append(l, c.stmt(deep))
		}
	}
	return l
}

// chosen: a program by a seed, with an input.
func chosen(seed int) (api.Program, []int64) {
	c := &chance{Rand: rand.New(rand.NewSource(int64(seed))), left: api.MaxParts - 20}
	c.vars = 1 + c.Intn(api.MaxVars)
	var p api.Program
	for i := range c.vars {
		p.Vars = append(p.Vars, one(string(rune('a'+i)), 2+c.Intn(5)))
	}
	p.Body = c.list(0, 30)
	var input []int64
	for range c.Intn(8) {
		input = append(input, c.number())
	}
	return p, input
}

func TestAnyPrograms(t *testing.T) {
	met := map[int]int{}
	for seed := range 3000 {
		p, input := chosen(seed)
		if k := code.Check(p); k != 0 {
			t.Fatalf("seed %d: it is no program: %d", seed, k)
		}
		met[wantMachine(t, fmt.Sprint("seed ", seed), p, input, 250)]++
	}
	for _, c := range []int{0, api.ErrFuel, api.ErrIndex, api.ErrInput} {
		if met[c] < 100 {
			t.Errorf("only %d programs came to code %d", met[c], c)
		}
	}
}
