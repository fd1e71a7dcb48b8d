package ideal_test

import (
	"reflect"
	"slices"
	"testing"

	"overwinter/api"
	"overwinter/ideal"
)

// copier makes lists anew, each in a way of its own.
type copier struct {
	vars  func([]api.Var) []api.Var
	stmts func([]api.Stmt) []api.Stmt
	exprs func([]api.Expr) []api.Expr
}

func (c copier) program(p api.Program) api.Program {
	return api.Program{Vars: c.vars(p.Vars), Body: c.body(p.Body)}
}

func (c copier) body(l []api.Stmt) []api.Stmt {
	out := c.stmts(l)
	for i := range out {
		s := &out[i]
		s.E.L, s.F.L = c.parts(s.E.L), c.parts(s.F.L)
		s.Body, s.Else = c.body(s.Body), c.body(s.Else)
	}
	return out
}

func (c copier) parts(l []api.Expr) []api.Expr {
	out := c.exprs(l)
	for i := range out {
		out[i].L = c.parts(out[i].L)
	}
	return out
}

func empties[T any](l []T) []T { return append(make([]T, 0, len(l)), l...) }
func nils[T any](l []T) []T    { return append([]T(nil), l...) }
func toCap[T any](l []T) []T   { return nils(l[:cap(l)]) }

// backed: behind the length stand these, too.
func backed[T any](behind ...T) func([]T) []T {
	return func(l []T) []T {
		return append(empties(l), behind...)[:len(l)]
	}
}

// withMore: a copy that has something behind the length of each list.
func withMore(p api.Program, mark int) api.Program {
	e := api.Expr{Op: mark, N: int64(mark)}
	s := api.Stmt{Op: mark, E: e, F: e}
	return copier{
		backed(one("behind", mark), one("", -mark)),
		backed(s, s, api.Stmt{}),
		backed(e, e, api.Expr{}),
	}.program(p)
}

// whole: what stands in the memory of a program's lists, behind their lengths, too.
func whole(p api.Program) api.Program {
	return copier{toCap, toCap, toCap}.program(p)
}

// answer: all that Run tells.
type answer struct {
	result     api.Result
	took, code int
}

func run(p api.Program, input []int64, fuel int) answer {
	r, n, c := ideal.Run(p, input, fuel)
	return answer{r, n, c}
}

func (a answer) is(b answer) bool {
	return sameResult(a.result, b.result) && a.took == b.took && a.code == b.code
}

// keep: the same, in memory that is the test's alone.
func (a answer) keep() answer {
	a.result.Out, a.result.Cells = slices.Clone(a.result.Out), slices.Clone(a.result.Cells)
	return a
}

// asked: what Run is asked.
type asked struct {
	p     api.Program
	input []int64
	fuel  int
}

func (a asked) run() answer { return run(a.p, a.input, a.fuel) }

// questions: of programs, and of what is none.
func questions() []asked {
	var l []asked
	for seed := range 60 {
		p, input := chosen(seed)
		l = append(l, asked{p, input, 150}, asked{p, input, 11})
	}
	p := api.Program{Vars: abc(), Body: list(read(1), tell(first(1)), put(2, num(2), first(1)), tell(get(2, num(2))), while(num(1), read(0), tell(first(0))))}
	for fuel := range 30 {
		l = append(l, asked{p, nums(7, 8, 9), fuel})
	}
	l = append(l, asked{p, nums(7), -1}, asked{p, counted(api.MaxInput + 1), 5}, asked{p, counted(api.MaxInput), api.MaxFuel}, asked{})
	for _, bad := range wrongs() {
		if !bad.endless {
			l = append(l, asked{bad.p, nums(7, 8), 5})
		}
	}
	return l
}

// TestLeavesAll: the program and the input are not changed, and what lies behind a list's length is as if it were not there.
func TestLeavesAll(t *testing.T) {
	for i, a := range questions() {
		want := a.run()
		for _, mark := range []int{0, 1, api.SCommit, 99} {
			q := asked{withMore(a.p, mark), append(empties(a.input), int64(mark), 77)[:len(a.input)], a.fuel}
			p, input := whole(q.p), toCap(q.input)
			if got := q.run(); !got.is(want) {
				t.Errorf("question %d, and %d behind: %v, want %v", i, mark, got, want)
			}
			if !reflect.DeepEqual(whole(q.p), p) || !slices.Equal(toCap(q.input), input) {
				t.Errorf("question %d, and %d behind: it was changed", i, mark)
			}
		}
	}
}

// TestPartOfAnInput: only so many numbers as its length says are there to be read.
func TestPartOfAnInput(t *testing.T) {
	all := nums(7, 8, 9, 10, 11)
	p := program(t, "let a 1 (while (num 1) ((read a) (print (var a))))")
	for n := range all {
		want := api.Result{Code: api.ErrInput, Out: nums(7, 8, 9, 10, 11)[:n], Cells: nums(0)}
		if n > 0 {
			want.Cells[0] = want.Out[n-1]
		}
		wantRun(t, "a part", p, all[:n], 99, n*6+3, want)
	}
	// It is the length that may not be beyond MaxInput.
	if _, _, c := ideal.Run(p, counted(5000)[:api.MaxInput], 9); c != 0 {
		t.Errorf("code %d, want 0", c)
	}
}

// TestNilOrEmpty: a list without elements is the same either way.
func TestNilOrEmpty(t *testing.T) {
	for i, a := range questions() {
		want := a.run()
		for _, p := range []api.Program{copier{nils, nils, nils}.program(a.p), copier{empties, empties, empties}.program(a.p)} {
			for _, input := range [][]int64{nils(a.input), empties(a.input)} {
				if got := run(p, input, a.fuel); !got.is(want) {
					t.Errorf("question %d: %v, want %v", i, got, want)
				}
			}
		}
	}
}

// scribble: on all of a list, behind its length, too.
func scribble(l []int64) {
	for i := range l[:cap(l)] {
		l[:cap(l)][i] = -77
	}
}

// TestAnswersAreTheirOwn: the two lists of one share no memory, and none is shared with another answer or with the input.
func TestAnswersAreTheirOwn(t *testing.T) {
	for i, a := range questions() {
		input := empties(a.input)
		a.input = empties(input)
		want := a.run().keep()
		x, y, z := a.run(), a.run(), a.run()
		scribble(x.result.Out)
		if !slices.Equal(x.result.Cells, want.result.Cells) {
			t.Errorf("question %d: what was printed shares memory with the cells", i)
		}
		scribble(x.result.Cells)
		scribble(y.result.Cells)
		if !slices.Equal(y.result.Out, want.result.Out) {
			t.Errorf("question %d: the cells share memory with what was printed", i)
		}
		// A list that is made longer in its own memory must not reach into the other one.
		x, y = a.run(), a.run()
		_ = append(x.result.Out, -77, -77, -77)
		_ = append(y.result.Cells, -77, -77, -77)
		if !x.is(want) || !y.is(want) || !z.is(want) {
			t.Errorf("question %d: a change of an answer changed another one: %v, want %v", i, z, want)
		}
		if !slices.Equal(a.input, input) {
			t.Errorf("question %d: a change of an answer changed the input", i)
		}
		if got := a.run(); !got.is(want) {
			t.Errorf("question %d: behind a change of an answer: %v, want %v", i, got, want)
		}
	}
}

// TestKeepsNothing: what is changed behind a call changes nothing that was answered, and is something else for the next one.
func TestKeepsNothing(t *testing.T) {
	p := api.Program{Vars: abc(), Body: list(read(1), tell(first(1)), put(2, num(1), first(1)))}
	input := nums(7)
	was := api.Result{Out: nums(7), Cells: nums(0, 0, 7, 0, 7, 0)}
	got, _, _ := ideal.Run(p, input, 9)
	input[0] = 8
	p.Vars[0].Size = 1
	p.Body[2].E.N = 5
	p.Body[1].E.L = append(p.Body[1].E.L, num(1))[:0]
	if !sameResult(got, was) {
		t.Errorf("behind a change of what was handed in: %v, was %v", got, was)
	}
	wantRun(t, "changed", p, input, 9, 6, api.Result{Code: api.ErrIndex, Out: nums(8), Cells: nums(0, 8, 0, 0, 0)})
}

// TestAskedAgain: the answer hangs on the arguments alone, whatever was asked between.
func TestAskedAgain(t *testing.T) {
	all := questions()
	for i, a := range all {
		want := a.run()
		for j, b := range all {
			b.run()
			if got := a.run(); !got.is(want) {
				t.Errorf("question %d behind %d: %v, want %v", i, j, got, want)
			}
		}
	}
}

// TestListsThatShare: one list in several places is done in each of them, and lists of the program may lie in one memory.
func TestListsThatShare(t *testing.T) {
	e := api.Expr{Op: api.ELess, L: []api.Expr{num(0), first(1)}}
	body := list(read(1), tell(e))
	p := api.Program{Vars: abc(), Body: list(
		either(e, body, body[1:]), // 0 < 0: Else; 0 is printed
		read(1),                   // 7
		either(e, body, body[1:]), // 0 < 7: Body; -1 is read, 0 is printed
		put(0, e, e),
		while(e, body[1:]...),
		tell(first(1)),
	)}
	wantRun(t, "shared", p, nums(7, -1), 99, (4+4)+1+(4+1+4+1)+7+4+2+1, api.Result{Out: nums(0, 0, -1), Cells: nums(0, 0, -1, 0, 0, 0)})
}
