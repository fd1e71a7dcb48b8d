package machine_test

import (
	"fmt"
	"slices"
	"strings"
	"testing"

	"overwinter/api"
	"overwinter/compile"
	"overwinter/machine"
)

// rightward: an expression in which so many stand, one in the other, each as the second one: n, and all above it.
func rightward(op string, deep int, n int64) string {
	if deep == 1 {
		return fmt.Sprintf("(num %d)", n)
	}
	return fmt.Sprintf("(%s (num %d) %s)", op, n, rightward(op, deep-1, n+1))
}

// high: the most numbers that are on the stack at a time, to its end.
func (r *rig) high(t *testing.T) int64 {
	t.Helper()
	h := int64(0)
	for n := 0; r.Step(); n++ {
		if n > enough {
			t.Fatal("it does not end")
		}
		h = max(h, r.Load(wordHeight))
	}
	if r.Load(wordHeight) != 0 {
		t.Errorf("at its end %d numbers are on the stack", r.Load(wordHeight))
	}
	return h
}

// TestHighestStack: expressions that stand in MaxDeep others, on the right side; in F of a SPut E is below them.
func TestHighestStack(t *testing.T) {
	const d = api.MaxDeep
	full := fmt.Sprintf("let a %d ", api.MaxCells)
	if d != 12 {
		t.Fatal("the sums are of another MaxDeep")
	}
	deep := rightward("add", d, 1) // 1 + .. + 12
	for _, c := range []struct {
		text string
		high int64
		want api.Result
	}{
		{full + "(print " + deep + ")", d, api.Result{Out: nums(78)}},
		{full + "(put a (num 47) " + deep + ")", d + 1, api.Result{Cells: slices.Concat(make([]int64, 47), nums(78))}},
		{full + "(put a (sub " + rightward("add", d-1, 1) + " (num 66)) (num 5))", d - 1, api.Result{Cells: nums(5)}},
		{full + "(put a " + rightward("same", d, 1) + " " + deep + ")", d + 1, api.Result{Cells: nums(78)}},
		{full + "(put a (num 0) " + deep + ") (put a (num 1) " + rightward("sub", d, 1) + ")", d + 1, api.Result{Cells: nums(78, -6)}},
		{full + "(if " + deep + " ((print (num 1))) ((print (num 2))))", d, api.Result{Out: nums(1)}},
		{full + "(while " + rightward("mul", d, 0) + " ())", d, api.Result{}},
	} {
		r := rigOf(t, c.text)
		if got := r.high(t); got != c.high {
			t.Errorf("%s: %d numbers on the stack, want %d", c.text, got, c.high)
		}
		want := c.want
		want.Cells = append(want.Cells, make([]int64, api.MaxCells-len(want.Cells))...)
		wantResult(t, c.text, r.result(), want)
	}
}

// TestDeepGets: a cell is told of which a cell is told, MaxDeep deep.
func TestDeepGets(t *testing.T) {
	e := "(num 1)"
	for range api.MaxDeep - 1 {
		e = "(get a " + e + ")"
	}
	r := rigOf(t, "let b 1 let a 3 (put a (num 1) (num 2)) (put a (num 2) (num 1)) (print "+e+")")
	r.high(t)
	// Of an odd number of gets comes the 2 that the first of them tells.
	wantResult(t, "deep gets", r.result(), api.Result{Out: nums(2), Cells: nums(0, 0, 2, 1)})
}

// TestDeepStatements: MaxDeep of them around one.
func TestDeepStatements(t *testing.T) {
	text := "(commit)"
	for i := range api.MaxDeep {
		if i%2 == 0 {
			text = "(if (num 1) (" + text + ") ())"
		} else {
			text = "(while (var a) (" + text + " (set a (num 0))))"
		}
	}
	r := rigOf(t, "let a 1 (set a (num 1)) "+text)
	r.run(t)
	if r.Gen() != 1 || r.Result(0).Code != 0 {
		t.Errorf("%d commits and code %d, want 1 and 0", r.Gen(), r.Result(0).Code)
	}
}

// filled: each cell has a number of its own now.
func filled(r *rig) []int64 {
	var l []int64
	for i := range r.cells {
		l = append(l, int64(100+i))
		r.Put(wordCells+i, int64(100+i))
	}
	return l
}

// TestCellsOfVariables: Sizes of 1 and of MaxCells, and between others: the first cell, the last one, and those that there are not.
func TestCellsOfVariables(t *testing.T) {
	for _, c := range []struct {
		lets       string
		from, size int64
	}{
		{"let a 1", 0, 1},
		{"let a 48", 0, 48},
		{"let b 1 let a 1 let c 1", 1, 1},
		{"let b 47 let a 1", 47, 1},
		{"let b 1 let a 47", 1, 47},
		{"let b 2 let a 3 let c 2", 2, 3},
		{"let a 2 let b 2", 0, 2},
		{"let b 2 let a 2", 2, 2},
	} {
		for _, n := range nums(0, c.size-1, c.size/2, -1, c.size, c.size+1, -c.size, -c.from, api.MaxCells, 1<<32, -1<<32, 1<<63-1, -1<<63, -1<<63+c.from) {
			is := n >= 0 && n < c.size
			wantGet(t, c.lets, n, c.from+n, is)
			wantPut(t, c.lets, n, c.from+n, is)
		}
	}
}

func wantGet(t *testing.T, lets string, n, cell int64, is bool) {
	t.Helper()
	text := fmt.Sprintf("%s (print (get a (num %d)))", lets, n)
	r := rigOf(t, text)
	want := api.Result{Code: api.ErrIndex, Cells: filled(r)}
	if is {
		want = api.Result{Cells: want.Cells, Out: nums(100 + cell)}
	}
	r.run(t)
	wantResult(t, text, r.result(), want)
}

func wantPut(t *testing.T, lets string, n, cell int64, is bool) {
	t.Helper()
	text := fmt.Sprintf("%s (put a (num %d) (num 7))", lets, n)
	r := rigOf(t, text)
	want := api.Result{Code: api.ErrIndex, Cells: filled(r)}
	if is {
		want.Code = 0
		want.Cells[cell] = 7
	}
	r.run(t)
	wantResult(t, text, r.result(), want)
}

// TestFirstCells: of a variable that is not said by a number it is the first cell.
func TestFirstCells(t *testing.T) {
	r := rigOf(t, "let a 2 let b 3 let c 43 (set b (var c)) (read c) (set a (var b)) (print (var c))", 7)
	want := filled(r)
	want[2], want[5], want[0] = want[5], 7, want[5]
	r.run(t)
	wantResult(t, "first cells", r.result(), api.Result{Out: nums(7), Cells: want})
}

// TestInputs: of which all is read, and one more; of MaxInput numbers, too.
func TestInputs(t *testing.T) {
	for _, n := range []int{0, 1, 2, api.MaxInput} {
		var input []int64
		for i := range n {
			input = append(input, int64(i*i-3))
		}
		loop := "let a 1 let i 1 (while (less (var i) (num %d)) ((read a) (print (var a)) (set i (add (var i) (num 1)))))"
		want := api.Result{Out: input, Cells: nums(0, int64(n))}
		if n > 0 {
			want.Cells[0] = input[n-1]
		}
		r := rigOf(t, fmt.Sprintf(loop, n), input...)
		r.run(t)
		wantResult(t, fmt.Sprint("as many as there are: ", n), r.result(), want)
		r = rigOf(t, fmt.Sprintf(loop, n+1), input...)
		r.run(t)
		want.Code = api.ErrInput
		wantResult(t, fmt.Sprint("one more than there are: ", n), r.result(), want)
		if r.Load(wordRead) != int64(n) {
			t.Errorf("%d were read, want %d", r.Load(wordRead), n)
		}
	}
}

// TestResults: of no cells, of one, of some and of all; and of as many as there can't be.
func TestResults(t *testing.T) {
	r := rigOf(t, "let a 48 (print (num 3))")
	all := filled(r)
	for state, code := range map[int64]int{0: api.ErrFuel, 1: 0, 2 + api.ErrIndex: api.ErrIndex, 2 + api.ErrInput: api.ErrInput} {
		r.Put(wordState, state)
		for _, n := range []int{0, 1, 2, 47, 48} {
			wantResult(t, fmt.Sprintf("state %d, %d cells", state, n), r.Result(n), api.Result{Code: code, Cells: all[:n]})
		}
		for _, n := range []int{-1, -48, -1 << 63} {
			wantResult(t, fmt.Sprintf("state %d, %d cells", state, n), r.Result(n), api.Result{Code: code})
		}
		for _, n := range []int{49, 72, 112, 1 << 32, 1<<63 - 1} {
			wantResult(t, fmt.Sprintf("state %d, %d cells", state, n), r.Result(n), api.Result{Code: code, Cells: all})
		}
	}
}

// TestCodesOfResults: the first that the document names is told.
func TestCodesOfResults(t *testing.T) {
	for _, c := range []struct {
		text        string
		ahead, last int
	}{
		{"let a 2 (print (num 5))", api.ErrFuel, 0},
		{"let a 2 (print (get a (num 2)))", api.ErrFuel, api.ErrIndex},
		{"let a 2 (put a (num -1) (num 5))", api.ErrFuel, api.ErrIndex},
		{"let a 2 (print (num 5)) (read a)", api.ErrFuel, api.ErrInput},
	} {
		for _, other := range []bool{false, true} {
			r := rigOf(t, c.text)
			last := c.last
			if other {
				r.printer.Put(-1, 5)
				if last == 0 {
					last = api.ErrOther
				}
			}
			code := r.Result(0).Code
			for r.Step() {
				if code != c.ahead {
					t.Errorf("%s: %d while it goes on, want %d", c.text, code, c.ahead)
				}
				code = r.Result(0).Code
			}
			if code != last {
				t.Errorf("%s: %d at last, want %d", c.text, code, last)
			}
		}
	}
}

// TestPrintedAhead: what was printed by another machine is told, too.
func TestPrintedAhead(t *testing.T) {
	r := rigOf(t, "(print (num 5)) (print (num 6)) (print (num 7))")
	r.steps(t, 4)
	r.disk.Crash(0)
	r.wake()
	wantResult(t, "anew", r.result(), api.Result{Code: api.ErrFuel, Out: nums(5, 6)})
	wantKnown(t, "anew", r.memory, known{})
	r.run(t)
	wantResult(t, "at its end", r.result(), api.Result{Out: nums(5, 6, 7)})
}

// TestNoInstructions: of a program that is none there are none; it ends all the same.
func TestNoInstructions(t *testing.T) {
	l, c := compile.Make(api.Program{Body: []api.Stmt{{}}})
	if c == 0 {
		t.Fatal("it is a program")
	}
	for _, code := range [][]compile.Ins{l, nil, {}} {
		r := rigOf(t, "")
		x := machine.New(r.memory, code, nil, &machine.Printer{})
		if x.Commits() {
			t.Error("no instruction is a commit")
		}
		n := 0
		for n < 3 && x.Step() {
			n++
		}
		if n > 1 || len(x.Result(0).Out) != 0 {
			t.Errorf("%d steps without an instruction", n)
		}
	}
}

// TestNoPrinter: no call panics.
func TestNoPrinter(t *testing.T) {
	r := rigOf(t, "(print (num 5)) (commit)")
	x := machine.New(r.memory, r.code, nil, nil)
	for x.Step() {
	}
	if x.Result(1).Code != 0 {
		t.Errorf("code %d, want 0", x.Result(1).Code)
	}
}

// TestLongPrograms: as many parts as there may be.
func TestLongPrograms(t *testing.T) {
	r := rigOf(t, strings.Repeat("(commit)", api.MaxParts))
	if n := r.run(t); n != api.MaxParts+1 || r.Gen() != api.MaxParts {
		t.Errorf("%d instructions and %d commits", n, r.Gen())
	}
	r = rigOf(t, strings.Repeat("(print (num 2))", api.MaxParts/2))
	r.run(t)
	if got := r.result(); got.Code != 0 || !slices.Equal(got.Out, slices.Repeat(nums(2), api.MaxParts/2)) {
		t.Errorf("many prints: %v", got)
	}
}
