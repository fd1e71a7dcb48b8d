package life_test

import (
	"reflect"
	"slices"
	"testing"

	"overwinter/api"
	"overwinter/life"
)

// copier makes lists anew, each in a way of its own.
type copier struct {
	vars  func([]api.Var) []api.Var
	stmts func([]api.Stmt) []api.Stmt
	exprs func([]api.Expr) []api.Expr
}

func (c copier) program(p api.Program) api.Program {
	return api.Program{Vars: c.vars(p.Vars), Body: c.body(p.Body)}
}

func (c copier) body(l []api.Stmt) []api.Stmt {
	out := c.stmts(l)
	for i := range out {
		s := &out[i]
		s.E.L, s.F.L = c.parts(s.E.L), c.parts(s.F.L)
		s.Body, s.Else = c.body(s.Body), c.body(s.Else)
	}
	return out
}

func (c copier) parts(l []api.Expr) []api.Expr {
	out := c.exprs(l)
	for i := range out {
		out[i].L = c.parts(out[i].L)
	}
	return out
}

func empties[T any](l []T) []T { return append(make([]T, 0, len(l)), l...) }
func nils[T any](l []T) []T    { return append([]T(nil), l...) }
func toCap[T any](l []T) []T   { return nils(l[:cap(l)]) }

// backed: behind the length stand these, too.
func backed[T any](behind ...T) func([]T) []T {
	return func(l []T) []T {
		return append(empties(l), behind...)[:len(l)]
	}
}

// asked: what Run is asked.
type asked struct {
	p     api.Program
	input []int64
	l     []api.Step
	fuel  int
}

type answer struct {
	r api.Result
	c int
}

func (a asked) run() answer {
	r, c := life.Run(a.p, a.input, a.l, a.fuel)
	return answer{r, c}
}

func (a answer) is(b answer) bool { return sameResult(a.r, b.r) && a.c == b.c }

// keep: the same, in memory that is the test's alone.
func (a answer) keep() answer {
	a.r.Out, a.r.Cells = slices.Clone(a.r.Out), slices.Clone(a.r.Cells)
	return a
}

// withMore: a copy that has something behind the length of each list.
func (a asked) withMore(mark int) asked {
	e := api.Expr{Op: mark, N: int64(mark)}
	s := api.Stmt{Op: mark, E: e, F: e}
	p := copier{backed(one("behind", mark), one("", -mark)), backed(s, s, api.Stmt{}), backed(e, e, api.Expr{})}.program(a.p)
	step := api.Step{Kind: mark, N: 2, K: 1, Mask: 1}
	return asked{p, backed(int64(mark), 77)(a.input), backed(step, crash(0), api.Step{})(a.l), a.fuel}
}

// whole: what stands in the memory of all lists, behind their lengths, too.
func (a asked) whole() asked {
	return asked{copier{toCap, toCap, toCap}.program(a.p), toCap(a.input), toCap(a.l), a.fuel}
}

// questions: of programs, and of what is none, with steps, and with what is none.
func questions(t *testing.T) []asked {
	var l []asked
	for text, input := range lives() {
		p := program(t, text)
		l = append(l,
			asked{p, input, nil, 9},
			asked{p, input, steps(run(5), crash(0), tear(99, 1, 1)), 3},
			asked{p, input, steps(tear(99, 2, 1), run(20), crash(1)), 500})
	}
	p := program(t, twoCommits)
	for fuel := range 14 {
		l = append(l, asked{p, nums(7, 8), steps(run(fuel), crash(0)), 2}, asked{p, nums(7, 8), steps(crash(1), tear(fuel, 1, 1)), fuel})
	}
	l = append(l, asked{}, asked{p, nums(7, 8), steps(run(3), run(-1)), 5}, asked{p, nums(7, 8), nil, -1}, asked{p, counted(41), nil, 5}, asked{p, nil, make([]api.Step, 101), 5})
	for code := api.ErrRange; code <= api.ErrTwice; code++ {
		for _, bad := range wrongs()[code] {
			l = append(l, asked{bad, nums(7), steps(run(1)), 5})
		}
	}
	return l
}

// TestLeavesAll: the program, the input and the steps are not changed, and what lies behind a list's length is as if it were not there.
func TestLeavesAll(t *testing.T) {
	for i, a := range questions(t) {
		want := a.run()
		for _, mark := range []int{0, 1, api.LCrash, api.LTear, api.SCommit, 99} {
			q := a.withMore(mark)
			was := q.whole()
			if got := q.run(); !got.is(want) {
				t.Errorf("question %d, and %d behind: %v, want %v", i, mark, got, want)
			}
			if !reflect.DeepEqual(q.whole(), was) {
				t.Errorf("question %d, and %d behind: it was changed by Run", i, mark)
			}
			x, _ := life.New(q.p, q.input)
			for _, s := range q.l {
				if x != nil {
					x.Do(s)
				}
			}
			if !reflect.DeepEqual(q.whole(), was) {
				t.Errorf("question %d, and %d behind: it was changed by New or Do", i, mark)
			}
		}
	}
}

// TestNilOrEmpty: a list without elements is the same either way.
func TestNilOrEmpty(t *testing.T) {
	for i, a := range questions(t) {
		want := a.run()
		for _, p := range []api.Program{copier{nils, nils, nils}.program(a.p), copier{empties, empties, empties}.program(a.p)} {
			for _, input := range [][]int64{nils(a.input), empties(a.input)} {
				for _, l := range [][]api.Step{nils(a.l), empties(a.l)} {
					if got := (asked{p, input, l, a.fuel}).run(); !got.is(want) {
						t.Errorf("question %d: %v, want %v", i, got, want)
					}
				}
			}
		}
	}
}

// TestPartOfAnInput: only so many numbers as its length says are there to be read, behind a crash, too.
func TestPartOfAnInput(t *testing.T) {
	all := nums(7, 8, 9, 10, 11)
	for n := range all {
		x := bornOf(t, "let a 1 (while (num 1) ((read a) (print (var a))))", all[:n]...)
		want := stopped(api.ErrInput, counted(0), 0)
		if n > 0 {
			want.Out, want.Cells = nums(7, 8, 9, 10, 11)[:n], nums(all[n-1])
		}
		wantDo(t, "a part", x, run(99), n*6+3, want)
		x.Do(crash(0))
		wantDo(t, "a part again", x, run(99), n*6+3, want)
	}
}

// scribble: on all of a list, behind its length, too.
func scribble(l []int64) {
	for i := range l[:cap(l)] {
		l[:cap(l)][i] = -77
	}
}

// TestRunsAreTheirOwn: the two lists of an answer share no memory, and none is shared with another answer or with the input.
func TestRunsAreTheirOwn(t *testing.T) {
	for i, a := range questions(t) {
		input := empties(a.input)
		want := a.run().keep()
		x, y, z := a.run(), a.run(), a.run()
		scribble(x.r.Out)
		if !slices.Equal(x.r.Cells, want.r.Cells) {
			t.Errorf("question %d: what was printed shares memory with the cells", i)
		}
		scribble(y.r.Cells)
		if !slices.Equal(y.r.Out, want.r.Out) {
			t.Errorf("question %d: the cells share memory with what was printed", i)
		}
		x, y = a.run(), a.run()
		_ = append(x.r.Out, -77, -77, -77)
		_ = append(y.r.Cells, -77, -77, -77)
		if !x.is(want) || !y.is(want) || !z.is(want) || !a.run().is(want) || !slices.Equal(a.input, input) {
			t.Errorf("question %d: a change of an answer changed another one, or the input", i)
		}
	}
}

// TestNowIsItsOwn: what becomes of an answer of Now is nothing to the life, to other answers, and to its other list.
func TestNowIsItsOwn(t *testing.T) {
	x, y := bornOf(t, twoCommits, 7, 8), bornOf(t, twoCommits, 7, 8)
	for _, s := range steps(run(3), crash(0), run(6), tear(1, 0, 0), tear(9, 1, 0), run(1), run(9), crash(1), run(9)) {
		x.Do(s)
		y.Do(s)
		want := y.Now()
		a, b, c := x.Now(), x.Now(), x.Now()
		scribble(a.Out)
		scribble(b.Cells)
		if !slices.Equal(a.Cells, want.Cells) || !slices.Equal(b.Out, want.Out) || !sameResult(c, want) {
			t.Errorf("behind %v: lists of answers share memory", s)
		}
		_ = append(c.Out, -77, -77)
		_ = append(c.Cells, -77, -77)
		wantNow(t, "behind a change of an answer", x, want)
	}
}

// TestNowStays: what was answered is not changed by what is done then.
func TestNowStays(t *testing.T) {
	x := bornOf(t, twoCommits, 7, 8)
	x.Do(run(6))
	got := x.Now()
	x.Do(run(99))
	x.Do(crash(0))
	if !sameResult(got, goesOn(nums(7), 7, 8)) {
		t.Errorf("an early answer: %v", got)
	}
}

// TestAskingChangesNothing: Now, and what its machine is asked.
func TestAskingChangesNothing(t *testing.T) {
	x, y := bornOf(t, twoCommits, 7, 8), bornOf(t, twoCommits, 7, 8)
	for _, s := range slices.Repeat(steps(run(1), run(1), run(3), crash(0), tear(9, 1, 1), run(0)), 3) {
		n, _ := x.Do(s)
		wantDo(t, "asked", y, s, n, x.Now())
		for range 3 {
			y.Now()
			y.Commits()
			y.Torn()
			y.Result(1)
		}
		if !slices.Equal(x.All(), y.All()) || x.Gen() != y.Gen() || !slices.Equal(x.Dirty(), y.Dirty()) {
			t.Fatalf("behind %v a life that is asked is another one", s)
		}
	}
}

// TestKeepsNothing: what becomes of the program and the input behind New is nothing to the life, behind a crash, too.
func TestKeepsNothing(t *testing.T) {
	p := api.Program{Vars: abc(), Body: list(
		read(1), tell(two(api.EAdd, first(1), num(1))), commit(),
		either(first(1), list(read(0), tell(get(2, num(2)))), list(tell(num(-1)))),
		put(2, num(2), first(0)),
	)}
	spoil := func(input []int64) {
		for i := range input {
			input[i] = -5
		}
		p.Vars[0].Size, p.Vars[2].Size = 9, 1
		p.Body[0].V = 2
		p.Body[1].E.L[1].N = 50
		p.Body[2] = read(7)
		p.Body[3].Body[0] = commit()
		p.Body[3].Body[1].E.L[0].N = 99
	}
	input := nums(7, 8)
	x, c := life.New(p, input)
	if c != 0 {
		t.Fatalf("code %d", c)
	}
	spoil(input)
	wantDo(t, "spoilt", x, run(5), 5, goesOn(nums(8), 0, 0, 7, 0, 0, 0))
	wantDo(t, "spoilt", x, crash(0), 0, goesOn(nums(8), 0, 0, 0, 0, 0, 0))
	wantDo(t, "spoilt", x, tear(99, 1, 1), 6, goesOn(nums(8), 0, 0, 7, 0, 0, 0))
	wantDo(t, "spoilt", x, run(4), 4, goesOn(nums(8), 8, 0, 7, 0, 0, 0))
	wantDo(t, "spoilt", x, crash(0), 0, goesOn(nums(8), 0, 0, 7, 0, 0, 0))
	wantDo(t, "spoilt", x, run(99), 11, ended(nums(8, 0), 8, 0, 7, 0, 0, 8))
}

// TestLivesApart: two of one program and one input, by turns; and one of another program between.
func TestLivesApart(t *testing.T) {
	p, input := program(t, twoCommits), nums(7, 8)
	x, y := born(t, p, input...), born(t, p, input...)
	z := bornOf(t, "let a 1 (while (num 1) ((set a (add (var a) (num 1))) (print (var a)) (commit)))")
	wantDo(t, "one", x, run(6), 6, goesOn(nums(7), 7, 8))
	wantNow(t, "the other", y, goesOn(nil, 0, 0))
	wantDo(t, "one between", z, tear(99, 0, 0), 9, goesOn(nums(1), 1))
	wantDo(t, "the other", y, tear(99, 1, 0), 4, goesOn(nums(7), 0, 0))
	wantNow(t, "one", x, goesOn(nums(7), 7, 8))
	wantDo(t, "the other", y, crash(0), 0, goesOn(nums(7), 0, 0))
	wantDo(t, "one between", z, crash(0), 0, goesOn(nums(1), 1))
	wantDo(t, "one", x, crash(0), 0, goesOn(nums(7), 7, 0))
	x.Tear(3)
	wantDo(t, "the other", y, run(99), 11, ended(nums(7, 8), 9, 8))
	if y.Torn() || y.Gen() != 2 || x.Gen() != 1 {
		t.Error("a Tear of one life is one of the other, too")
	}
	wantDo(t, "one between", z, run(10), 10, goesOn(nums(1, 2), 2))
	wantNow(t, "one", x, goesOn(nums(7), 7, 0))
	life.Run(p, input, steps(run(99), crash(0)), 99)
	wantNow(t, "one", x, goesOn(nums(7), 7, 0))
	wantDo(t, "one", x, tear(99, 0, 0), 4, goesOn(nums(7, 8), 7, 8))
}

// TestAskedAgain: the answer hangs on the arguments alone, whatever was asked between.
func TestAskedAgain(t *testing.T) {
	all := questions(t)
	for i, a := range all {
		want := a.run()
		for j, b := range all {
			b.run()
			if got := a.run(); !got.is(want) {
				t.Errorf("question %d behind %d: %v, want %v", i, j, got, want)
			}
		}
	}
}
