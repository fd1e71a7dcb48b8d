package machine_test

import (
	"fmt"
	"math"
	"slices"
	"testing"

	"overwinter/api"
)

const (
	most  = math.MaxInt64
	least = math.MinInt64
)

// nums: so that a list of numbers is short to write.
func nums(l ...int64) []int64 { return l }

// wantSteps: what is known behind each instruction, and that Step told that one was done; then, that none is done any more.
func wantSteps(t *testing.T, text string, input []int64, l ...known) {
	t.Helper()
	r := rigOf(t, text, input...)
	for i, want := range l {
		if !r.Step() {
			t.Errorf("%s: instruction %d: false, want true", text, i)
		}
		wantKnown(t, fmt.Sprintf("%s: behind instruction %d", text, i), r.memory, want)
	}
	if r.Step() {
		t.Errorf("%s: instruction %d is done: want none", text, len(l))
	}
	wantKnown(t, text+": behind all", r.memory, l[len(l)-1])
}

func TestHalt(t *testing.T) {
	wantSteps(t, "", nil, known{next: 1, state: 1})
}

func TestNumAndSet(t *testing.T) {
	for _, n := range nums(0, 1, -1, 5, 1<<32, most, least) {
		wantSteps(t, fmt.Sprintf("let a 2 let b 2 (set b (num %d)) (set a (num 7))", n), nil,
			known{next: 1, stack: nums(n)},
			known{next: 2, cells: nums(0, 0, n)},
			known{next: 3, cells: nums(0, 0, n), stack: nums(7)},
			known{next: 4, cells: nums(7, 0, n)},
			known{next: 5, cells: nums(7, 0, n), state: 1},
		)
	}
}

func TestVar(t *testing.T) {
	wantSteps(t, "let a 2 let b 1 (read b) (set a (var b)) (set b (sub (var a) (var b)))", nums(9),
		known{next: 1, read: 1, cells: nums(0, 0, 9)},
		known{next: 2, read: 1, cells: nums(0, 0, 9), stack: nums(9)},
		known{next: 3, read: 1, cells: nums(9, 0, 9)},
		known{next: 4, read: 1, cells: nums(9, 0, 9), stack: nums(9)},
		known{next: 5, read: 1, cells: nums(9, 0, 9), stack: nums(9, 9)},
		known{next: 6, read: 1, cells: nums(9, 0, 9), stack: nums(0)},
		known{next: 7, read: 1, cells: nums(9, 0, 0)},
		known{next: 8, read: 1, cells: nums(9, 0, 0), state: 1},
	)
}

func TestGet(t *testing.T) {
	wantSteps(t, "let a 1 let b 2 (put b (num 1) (num 6)) (set a (get b (num 1)))", nil,
		known{next: 1, stack: nums(1)},
		known{next: 2, stack: nums(1, 6)},
		known{next: 3, cells: nums(0, 0, 6)},
		known{next: 4, cells: nums(0, 0, 6), stack: nums(1)},
		known{next: 5, cells: nums(0, 0, 6), stack: nums(6)},
		known{next: 6, cells: nums(6, 0, 6)},
		known{next: 7, cells: nums(6, 0, 6), state: 1},
	)
}

// TestGetNoCell: the number comes off the stack, and all else stays.
func TestGetNoCell(t *testing.T) {
	for _, n := range nums(-1, 2, 3, most, least) {
		wantSteps(t, fmt.Sprintf("let a 1 let b 2 let c 1 (set c (num 4)) (print (add (num 8) (get b (num %d))))", n), nil,
			known{next: 1, stack: nums(4)},
			known{next: 2, cells: nums(0, 0, 0, 4)},
			known{next: 3, cells: nums(0, 0, 0, 4), stack: nums(8)},
			known{next: 4, cells: nums(0, 0, 0, 4), stack: nums(8, n)},
			known{next: 5, cells: nums(0, 0, 0, 4), stack: nums(8), state: 2 + api.ErrIndex},
		)
	}
}

// TestPutNoCell: both numbers come off the stack, and no cell is changed.
func TestPutNoCell(t *testing.T) {
	for _, n := range nums(-1, 2, 3, most, least) {
		wantSteps(t, fmt.Sprintf("let a 1 let b 2 let c 1 (put b (num %d) (num 5)) (commit)", n), nil,
			known{next: 1, stack: nums(n)},
			known{next: 2, stack: nums(n, 5)},
			known{next: 3, state: 2 + api.ErrIndex},
		)
	}
}

func TestPut(t *testing.T) {
	wantSteps(t, "let a 1 let b 2 (put b (num 0) (num 3)) (put b (get b (num 1)) (num 2)) (put b (num 1) (get b (num 0)))", nil,
		known{next: 1, stack: nums(0)},
		known{next: 2, stack: nums(0, 3)},
		known{next: 3, cells: nums(0, 3)},
		known{next: 4, cells: nums(0, 3), stack: nums(1)},
		known{next: 5, cells: nums(0, 3), stack: nums(0)},
		known{next: 6, cells: nums(0, 3), stack: nums(0, 2)},
		known{next: 7, cells: nums(0, 2)},
		known{next: 8, cells: nums(0, 2), stack: nums(1)},
		known{next: 9, cells: nums(0, 2), stack: nums(1, 0)},
		known{next: 10, cells: nums(0, 2), stack: nums(1, 2)},
		known{next: 11, cells: nums(0, 2, 2)},
		known{next: 12, cells: nums(0, 2, 2), state: 1},
	)
}

// TestReckons: of two numbers; the one that came first is ahead.
func TestReckons(t *testing.T) {
	for _, c := range []struct {
		word       string
		a, b, want int64
	}{
		{"add", 3, 4, 7}, {"add", -3, 3, 0}, {"add", most, 1, least}, {"add", least, -1, most}, {"add", least, least, 0}, {"add", most, most, -2}, {"add", most, least, -1},
		{"sub", 3, 4, -1}, {"sub", 4, 3, 1}, {"sub", least, 1, most}, {"sub", most, -1, least}, {"sub", 0, least, least}, {"sub", least, least, 0}, {"sub", -1, most, least}, {"sub", -2, most, most},
		{"mul", 3, -4, -12}, {"mul", 0, least, 0}, {"mul", least, -1, least}, {"mul", most, 2, -2}, {"mul", most, most, 1}, {"mul", least, least, 0}, {"mul", 1 << 32, 1 << 31, least}, {"mul", 1 << 32, 1 << 32, 0}, {"mul", 3037000500, 3037000500, 3037000500*3037000500 - 1<<64},
		{"less", 3, 4, 1}, {"less", 4, 3, 0}, {"less", 4, 4, 0}, {"less", -1, 0, 1}, {"less", 0, -1, 0}, {"less", least, most, 1}, {"less", most, least, 0}, {"less", least, least, 0}, {"less", least, 1, 1}, {"less", most, -1, 0},
		{"same", 3, 3, 1}, {"same", 3, 4, 0}, {"same", 4, 3, 0}, {"same", 0, 0, 1}, {"same", least, least, 1}, {"same", least, most, 0}, {"same", 5, 5 + 1<<32, 0}, {"same", 0, least, 0},
	} {
		wantSteps(t, fmt.Sprintf("let a 1 (set a (%s (num %d) (num %d)))", c.word, c.a, c.b), nil,
			known{next: 1, stack: nums(c.a)},
			known{next: 2, stack: nums(c.a, c.b)},
			known{next: 3, stack: nums(c.want)},
			known{next: 4, cells: nums(c.want)},
			known{next: 5, cells: nums(c.want), state: 1},
		)
	}
}

// TestPrint: what comes to the Printer, and at which place.
func TestPrint(t *testing.T) {
	text := "(print (num 5)) (print (num 5)) (print (num -6))"
	wantSteps(t, text, nil,
		known{next: 1, stack: nums(5)},
		known{next: 2, printed: 1},
		known{next: 3, printed: 1, stack: nums(5)},
		known{next: 4, printed: 2},
		known{next: 5, printed: 2, stack: nums(-6)},
		known{next: 6, printed: 3},
		known{next: 7, printed: 3, state: 1},
	)
	r := rigOf(t, text)
	for i, want := range [][]int64{nil, nums(5), nums(5), nums(5, 5), nums(5, 5), nums(5, 5, -6), nums(5, 5, -6)} {
		r.steps(t, 1)
		wantPrinter(t, fmt.Sprint("behind instruction ", i), r.printer, 0, want...)
	}
}

// TestPrintOther: it goes on, and so does the Printer.
func TestPrintOther(t *testing.T) {
	r := rigOf(t, "(print (num 5)) (print (num 6)) (print (num 7))")
	r.printer.Put(0, 5)
	r.printer.Put(1, 8)
	r.steps(t, 2)
	wantPrinter(t, "the same", r.printer, 0, 5, 8)
	r.steps(t, 2)
	wantPrinter(t, "another one", r.printer, api.ErrOther, 5, 8)
	wantKnown(t, "another one", r.memory, known{next: 4, printed: 2})
	wantResult(t, "it goes on", r.result(), api.Result{Code: api.ErrFuel, Out: nums(5, 8)})
	r.run(t)
	wantPrinter(t, "at its end", r.printer, api.ErrOther, 5, 8, 7)
	wantKnown(t, "at its end", r.memory, known{next: 7, printed: 3, state: 1})
	wantResult(t, "at its end", r.result(), api.Result{Code: api.ErrOther, Out: nums(5, 8, 7)})
}

func TestRead(t *testing.T) {
	text := "let a 1 let b 2 (read b) (read a) (read a) (commit)"
	wantSteps(t, text, nums(most, least, 0),
		known{next: 1, read: 1, cells: nums(0, most)},
		known{next: 2, read: 2, cells: nums(least, most)},
		known{next: 3, read: 3, cells: nums(0, most)},
		known{next: 4, read: 3, cells: nums(0, most)},
		known{next: 5, read: 3, cells: nums(0, most), state: 1},
	)
	wantSteps(t, text, nums(7, 8),
		known{next: 1, read: 1, cells: nums(0, 7)},
		known{next: 2, read: 2, cells: nums(8, 7)},
		known{next: 3, read: 2, cells: nums(8, 7), state: 2 + api.ErrInput},
	)
	wantSteps(t, text, nil, known{next: 1, state: 2 + api.ErrInput})
	wantSteps(t, text, []int64{}, known{next: 1, state: 2 + api.ErrInput})
}

// TestElse: it leads on if the number is 0, whatever else it may be.
func TestElse(t *testing.T) {
	for _, n := range nums(1, -1, 2, 1<<32, most, least) {
		wantSteps(t, fmt.Sprintf("let a 1 (if (num %d) ((set a (num 3))) ((set a (num 4))))", n), nil,
			known{next: 1, stack: nums(n)},
			known{next: 2},
			known{next: 3, stack: nums(3)},
			known{next: 4, cells: nums(3)},
			known{next: 7, cells: nums(3)},
			known{next: 8, cells: nums(3), state: 1},
		)
	}
	wantSteps(t, "let a 1 (if (num 0) ((set a (num 3))) ((set a (num 4))))", nil,
		known{next: 1, stack: nums(0)},
		known{next: 5},
		known{next: 6, stack: nums(4)},
		known{next: 7, cells: nums(4)},
		known{next: 8, cells: nums(4), state: 1},
	)
}

func TestJump(t *testing.T) {
	wantSteps(t, "let a 1 (read a) (while (var a) ((read a)))", nums(2, 0),
		known{next: 1, read: 1, cells: nums(2)},
		known{next: 2, read: 1, cells: nums(2), stack: nums(2)},
		known{next: 3, read: 1, cells: nums(2)},
		known{next: 4, read: 2},
		known{next: 1, read: 2},
		known{next: 2, read: 2, stack: nums(0)},
		known{next: 5, read: 2},
		known{next: 6, read: 2, state: 1},
	)
}

// TestCommit: no word but the one that says what comes; and all words are made sure of, that one, too.
func TestCommit(t *testing.T) {
	r := rigOf(t, "let a 1 (set a (num 5)) (commit) (set a (num 6))")
	r.steps(t, 3)
	want := known{next: 3, cells: nums(5)}
	wantKnown(t, "behind a commit", r.memory, want)
	if r.Gen() != 1 || len(r.Dirty()) != 0 || r.disk.Wait() != 0 || r.Torn() {
		t.Errorf("Gen %d, Dirty %v, Wait %d, Torn %v: want 1, none, 0, false", r.Gen(), r.Dirty(), r.disk.Wait(), r.Torn())
	}
	r.steps(t, 2)
	if r.Gen() != 1 || r.disk.Wait() != 0 {
		t.Error("something is committed without ICommit")
	}
	r.disk.Crash(most)
	r.wake()
	wantKnown(t, "behind a crash", r.memory, want)
}

// TestNothingBesideCommits: all other instructions leave the disk as it is.
func TestNothingBesideCommits(t *testing.T) {
	r := rigOf(t, "let a 2 (read a) (put a (num 1) (get a (num 0))) (while (less (var a) (num 9)) ((set a (mul (var a) (num 2))) (print (var a)))) (if (same (var a) (num 1)) () ((set a (sub (add (var a) (num 1)) (num 5)))))", 3)
	before := r.disk.Sure()
	r.run(t)
	if r.Gen() != 0 || r.disk.Wait() != 0 || !slices.Equal(r.disk.Sure(), before) {
		t.Error("the disk was written on without a commit")
	}
	wantResult(t, "a program without a commit", r.result(), api.Result{Out: nums(6, 12), Cells: nums(8, 3)})
}
