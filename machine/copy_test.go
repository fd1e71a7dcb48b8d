package machine_test

import (
	"slices"
	"testing"

	"overwinter/api"
	"overwinter/compile"
	"overwinter/machine"
)

const readsTwo = "let a 1 let b 1 (read a) (print (var a)) (commit) (read b) (print (var b)) (read a)"

// TestInputIsNotKept: what becomes of it behind New is nothing to the machine.
func TestInputIsNotKept(t *testing.T) {
	input := nums(7, 8)
	r := rigOf(t, readsTwo)
	x := machine.New(r.memory, r.code, input, r.printer)
	input[0], input[1] = -1, -2
	for x.Step() {
		input[0]++
	}
	wantResult(t, "behind a change of the input", x.Result(2), api.Result{Code: api.ErrInput, Out: nums(7, 8), Cells: nums(7, 8)})
}

// TestInputStays: all of it, and what lies behind its length is neither read nor written.
func TestInputStays(t *testing.T) {
	for n := range 5 {
		whole := nums(7, 8, 9, 10, 11)
		r := rigOf(t, "let a 1 (while (num 1) ((read a) (print (var a)) (commit)))")
		r.input = whole[:n]
		r.again()
		r.run(t)
		wantResult(t, "a part of a list", r.Result(0), api.Result{Code: api.ErrInput, Out: nums(7, 8, 9, 10, 11)[:n]})
		if !slices.Equal(whole, nums(7, 8, 9, 10, 11)) {
			t.Errorf("the input was changed: %v", whole)
		}
	}
}

// TestNoList: nil and empty are the same.
func TestNoList(t *testing.T) {
	for _, input := range [][]int64{nil, {}, nums(1, 2)[:0]} {
		r := rigOf(t, readsTwo)
		r.input = input
		r.again()
		if n := r.run(t); n != 1 {
			t.Errorf("%d instructions without input, want 1", n)
		}
		wantResult(t, "no input", r.result(), api.Result{Code: api.ErrInput, Cells: nums(0, 0)})
	}
}

// TestCodeStays: and what lies behind its length is not done.
func TestCodeStays(t *testing.T) {
	r := rigOf(t, readsTwo, 7, 8, 9)
	whole := append(slices.Clone(r.code), compile.Ins{Op: compile.INum, N: 4}, compile.Ins{Op: compile.ICommit})
	before := slices.Clone(whole)
	r.code = whole[:len(r.code)]
	r.again()
	r.run(t)
	wantResult(t, "a part of a list", r.result(), api.Result{Out: nums(7, 8), Cells: nums(9, 8)})
	if !slices.Equal(whole, before) {
		t.Errorf("the instructions were changed: %v", whole)
	}
}

// scribble: on all of a list, behind its length, too.
func scribble(l []int64) {
	for i := range l[:cap(l)] {
		l[:cap(l)][i] = -77
	}
}

// TestResultIsItsOwn: no two lists of it share memory, and none is shared with the machine, its Printer, or another answer.
func TestResultIsItsOwn(t *testing.T) {
	r := rigOf(t, readsTwo, 7, 8, 9)
	for r.Step() {
		want := r.result()
		words := r.All()
		want.Out, want.Cells = slices.Clone(want.Out), slices.Clone(want.Cells)
		a, b, c := r.result(), r.result(), r.result()
		scribble(a.Out)
		if !slices.Equal(a.Cells, want.Cells) {
			t.Errorf("what was printed shares memory with the cells: %v, want %v", a.Cells, want.Cells)
		}
		scribble(a.Cells)
		scribble(b.Cells)
		if !slices.Equal(b.Out, want.Out) {
			t.Errorf("the cells share memory with what was printed: %v, want %v", b.Out, want.Out)
		}
		wantResult(t, "an answer ahead of a change", c, want)
		wantResult(t, "an answer behind a change", r.result(), want)
		wantPrinter(t, "behind a change", r.printer, 0, want.Out...)
		if !slices.Equal(r.All(), words) {
			t.Error("a change of an answer changed the memory")
		}
	}
}

// TestResultStays: what was answered is not changed by what is done then.
func TestResultStays(t *testing.T) {
	r := rigOf(t, readsTwo, 7, 8, 9)
	r.steps(t, 3)
	got := r.result()
	r.run(t)
	wantResult(t, "an early answer", got, api.Result{Code: api.ErrFuel, Out: nums(7), Cells: nums(7, 0)})
	wantResult(t, "a late answer", r.result(), api.Result{Out: nums(7, 8), Cells: nums(9, 8)})
}

// TestAskingChangesNothing: Result, Commits and Torn.
func TestAskingChangesNothing(t *testing.T) {
	r, s := rigOf(t, readsTwo, 7, 8, 9), rigOf(t, readsTwo, 7, 8, 9)
	for r.Step() {
		s.Step()
		for range 3 {
			s.Result(2)
			s.Commits()
			s.Torn()
		}
		if !slices.Equal(r.All(), s.All()) || !slices.Equal(r.Dirty(), s.Dirty()) || r.Gen() != s.Gen() {
			t.Fatal("a machine that is asked is another one")
		}
	}
}

// TestMachinesApart: two of them, on memories of their own, by turns, of one list of instructions and one input.
func TestMachinesApart(t *testing.T) {
	input := nums(7, 8, 9)
	r := rigOf(t, readsTwo, input...)
	s := rigOf(t, readsTwo, input...)
	s.code, s.input = r.code, r.input
	s.again()
	r.Tear(1)
	s.steps(t, 4)
	wantKnown(t, "the one that waits", r.memory, known{})
	wantPrinter(t, "the one that waits", r.printer, 0)
	r.steps(t, 4)
	if !r.Torn() || s.Torn() || s.Gen() != 1 || r.Gen() != 0 {
		t.Error("a Tear of one machine is one of the other, too")
	}
	s.run(t)
	wantResult(t, "the one that goes on", s.result(), api.Result{Out: nums(7, 8), Cells: nums(9, 8)})
	wantResult(t, "the one that waits", r.result(), api.Result{Code: api.ErrFuel, Out: nums(7), Cells: nums(7, 0)})
}

// TestOnOneMemory: two machines on one memory, by turns, are as one.
func TestOnOneMemory(t *testing.T) {
	r := rigOf(t, readsTwo, 7, 8, 9)
	other := machine.New(r.memory, r.code, r.input, r.printer)
	for r.Step() && other.Step() {
	}
	want := api.Result{Out: nums(7, 8), Cells: nums(9, 8)}
	wantResult(t, "the one", r.result(), want)
	wantResult(t, "the other", other.Result(2), want)
	if r.Step() || other.Step() {
		t.Error("one of them goes on")
	}
}
