package machine_test

import (
	"fmt"
	"math/big"
	"math/rand"
	"slices"
	"testing"

	"overwinter/api"
	"overwinter/code"
)

// model: what a program comes to, told by its statements and expressions alone, without instructions, a stack or a memory.
type model struct {
	program api.Program
	input   []int64
	fuel    int // so many instructions are left
	took    int
	out     []int64
	cells   []int64
}

// halted: a model stopped with a code.
type halted int

func runModel(p api.Program, input []int64, fuel int) (m *model, c int) {
	m = &model{program: p, input: input, fuel: fuel, cells: make([]int64, code.Cells(p))}
	defer func() {
		if h, ok := recover().(halted); ok {
			c = int(h)
		}
	}()
	m.list(p.Body)
	m.take()
	return m, 0
}

// take: one instruction is done.
func (m *model) take() {
	if m.took == m.fuel {
		panic(halted(api.ErrFuel))
	}
	m.took++
}

func (m *model) cell(v int, n int64) *int64 {
	if n < 0 || n >= int64(m.program.Vars[v].Size) {
		panic(halted(api.ErrIndex))
	}
	return &m.cells[code.Cell(m.program, v)+int(n)]
}

// wrapped: of 64 bits.
func wrapped(n *big.Int) int64 {
	return int64(new(big.Int).And(n, new(big.Int).SetUint64(1<<64-1)).Uint64())
}

func (m *model) expr(e api.Expr) int64 {
	var l []int64
	for _, x := range e.L {
		l = append(l, m.expr(x))
	}
	m.take()
	switch e.Op {
	case api.ENum:
		return e.N
	case api.EVar:
		return *m.cell(e.V, 0)
	case api.EGet:
		return *m.cell(e.V, l[0])
	}
	a, b := big.NewInt(l[0]), big.NewInt(l[1])
	switch {
	case e.Op == api.EAdd:
		return wrapped(new(big.Int).Add(a, b))
	case e.Op == api.ESub:
		return wrapped(new(big.Int).Sub(a, b))
	case e.Op == api.EMul:
		return wrapped(new(big.Int).Mul(a, b))
	case e.Op == api.ELess && a.Cmp(b) < 0, e.Op == api.ESame && a.Cmp(b) == 0:
		return 1
	}
	return 0
}

func (m *model) list(l []api.Stmt) {
	for _, s := range l {
		m.stmt(s)
	}
}

func (m *model) stmt(s api.Stmt) {
	var e, f int64
	hasE, hasF, _, _, _ := code.Has(s.Op)
	if hasE {
		e = m.expr(s.E)
	}
	if hasF {
		f = m.expr(s.F)
	}
	m.take()
	switch s.Op {
	case api.SSet:
		*m.cell(s.V, 0) = e
	case api.SPut:
		*m.cell(s.V, e) = f
	case api.SPrint:
		m.out = append(m.out, e)
	case api.SRead:
		if len(m.input) == 0 {
			panic(halted(api.ErrInput))
		}
		*m.cell(s.V, 0) = m.input[0]
		m.input = m.input[1:]
	case api.SWhile:
		for e != 0 {
			m.list(s.Body)
			m.take()
			e = m.expr(s.E)
			m.take()
		}
	case api.SIf:
		if e == 0 {
			m.list(s.Else)
			return
		}
		m.list(s.Body)
		m.take()
	}
}

// wantModel: with so many instructions, and at many times on the way there. It tells the code.
func wantModel(t *testing.T, name string, p api.Program, input []int64, fuel int) int {
	t.Helper()
	r := newRig(t, p, input...)
	took := 0
	for took < fuel && r.Step() {
		took++
		if took < 40 || took%17 == 0 {
			wantModelAt(t, name, r, p, input, took)
		}
	}
	wantModelAt(t, name, r, p, input, fuel)
	if m, _ := runModel(p, input, fuel); m.took != took {
		t.Errorf("%s: it took %d instructions, want %d", name, took, m.took)
	}
	return r.Result(0).Code
}

func wantModelAt(t *testing.T, name string, r *rig, p api.Program, input []int64, fuel int) {
	t.Helper()
	m, c := runModel(p, input, fuel)
	wantResult(t, fmt.Sprintf("%s: behind %d", name, fuel), r.result(), api.Result{Code: c, Out: m.out, Cells: m.cells})
	if t.Failed() {
		t.Fatalf("of %v with %v", p, input)
	}
}

// chance makes programs by chance, in which what goes on often ends.
type chance struct {
	*rand.Rand
	vars int
	left int // so many parts may still come
}

func (c *chance) number() int64 {
	switch c.Intn(8) {
	case 0:
		return nums(most, least, least+1, 1<<32, -1<<31, 3037000500)[c.Intn(6)]
	case 1:
		return int64(c.Uint64())
	}
	return c.Int63n(5) - 1
}

func (c *chance) expr(deep int) api.Expr {
	c.left--
	op := 1 + c.Intn(api.ESame)
	if deep >= api.MaxDeep || c.left < 8 {
		op = api.ENum + c.Intn(2)
	}
	switch {
	case op >= api.EAdd:
		return api.Expr{Op: op, L: []api.Expr{c.expr(deep + 1), c.expr(deep + 1)}}
	case op == api.EGet:
		return api.Expr{Op: op, V: c.Intn(c.vars), L: []api.Expr{c.index(deep + 1)}}
	case op == api.EVar:
		return api.Expr{Op: op, V: c.Intn(c.vars)}
	}
	return api.Expr{Op: op, N: c.number()}
}

// index: most often a number that says a cell.
func (c *chance) index(deep int) api.Expr {
	if c.Intn(4) == 0 {
		return c.expr(deep)
	}
	c.left--
	return api.Expr{Op: api.ENum, N: c.Int63n(2)}
}

func (c *chance) stmt(deep int) api.Stmt {
	c.left--
	op := 1 + c.Intn(api.SCommit)
	if deep >= api.MaxDeep {
		op = api.SCommit
	}
	s := api.Stmt{Op: op}
	e, f, v, body, other := code.Has(op)
	if v {
		s.V = c.Intn(c.vars)
	}
	switch {
	case f:
		s.E = c.index(deep + 1)
		s.F = c.expr(deep + 1)
	case e:
		s.E = c.expr(deep + 1)
	}
	if body {
		s.Body = c.list(deep+1, 4)
	}
	if other {
		s.Else = c.list(deep+1, 3)
	}
	return s
}

func (c *chance) list(deep, most int) []api.Stmt {
	var l []api.Stmt
	for range c.Intn(most + 1) {
		if c.left > 30 {
			l = append(l, c.stmt(deep))
		}
	}
	return l
}

// chosen: a program by a seed, with an input.
func chosen(seed int) (api.Program, []int64) {
	c := &chance{Rand: rand.New(rand.NewSource(int64(seed))), left: api.MaxParts - 20}
	c.vars = 1 + c.Intn(api.MaxVars)
	var p api.Program
	for i := range c.vars {
		p.Vars = append(p.Vars, api.Var{Name: string(rune('a' + i)), Size: 2 + c.Intn(5)})
	}
	p.Body = c.list(0, 30)
	var input []int64
	for range c.Intn(8) {
		input = append(input, c.number())
	}
	return p, input
}

// TestAnyPrograms: each comes to what its statements and expressions say, at each time.
func TestAnyPrograms(t *testing.T) {
	met := map[int]int{}
	for seed := range 3000 {
		p, input := chosen(seed)
		if k := code.Check(p); k != 0 {
			t.Fatalf("seed %d: it is no program: %d", seed, k)
		}
		met[wantModel(t, fmt.Sprint("seed ", seed), p, input, 300)]++
	}
	for _, c := range []int{0, api.ErrFuel, api.ErrIndex, api.ErrInput} {
		if met[c] < 100 {
			t.Errorf("only %d programs came to code %d", met[c], c)
		}
	}
}

// TestAnyLives: crashed at some times, and torn at some commits, each program prints the beginning of what it is to print, and comes to what it is to come to.
func TestAnyLives(t *testing.T) {
	crashes := 0
	for seed := range 1500 {
		p, input := chosen(seed)
		m, want := runModel(p, input, 400)
		if want == api.ErrFuel {
			continue
		}
		r := newRig(t, p, input...)
		c := rand.New(rand.NewSource(int64(seed)))
		for range 8 {
			for range c.Intn(m.took + 1) {
				r.Tear(0)
				if r.Commits() && c.Intn(3) == 0 {
					r.Tear(c.Intn(12))
				}
				if r.Step(); r.Torn() {
					break
				}
			}
			r.disk.Crash(c.Uint64())
			r.wake()
			crashes++
			if out := r.printer.List(); len(out) > len(m.out) || !slices.Equal(out, m.out[:len(out)]) {
				t.Fatalf("seed %d: printed %v, want the beginning of %v", seed, out, m.out)
			}
		}
		r.run(t)
		wantResult(t, fmt.Sprint("seed ", seed), r.result(), api.Result{Code: want, Out: m.out, Cells: m.cells})
	}
	if crashes < 1000 {
		t.Errorf("only %d crashes", crashes)
	}
}
