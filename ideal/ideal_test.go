package ideal_test

import (
	"math"
	"slices"
	"testing"

	"overwinter/api"
	"overwinter/ideal"
	"overwinter/parse"
)

const (
	most  = math.MaxInt64
	least = math.MinInt64
)

func nums(l ...int64) []int64 { return l }

func program(t *testing.T, text string) api.Program {
	t.Helper()
	p, f := parse.Parse(text)
	if f.Code != 0 {
		t.Fatalf("a test is written wrong: %v of %s", f, text)
	}
	return p
}

func sameResult(a, b api.Result) bool {
	return a.Code == b.Code && slices.Equal(a.Out, b.Out) && slices.Equal(a.Cells, b.Cells)
}

// wantRun: with a code that is 0.
func wantRun(t *testing.T, name string, p api.Program, input []int64, fuel, took int, want api.Result) {
	t.Helper()
	got, n, c := ideal.Run(p, input, fuel)
	if !sameResult(got, want) || n != took || c != 0 {
		t.Errorf("%s: with input %v and fuel %d: %v, it took %d, code %d; want %v, %d, 0", name, input, fuel, got, n, c, want, took)
	}
}

// wantCode: and nothing beside it.
func wantCode(t *testing.T, name string, p api.Program, input []int64, fuel, want int) {
	t.Helper()
	got, n, c := ideal.Run(p, input, fuel)
	if c != want || n != 0 || got.Code != 0 || len(got.Out) != 0 || len(got.Cells) != 0 {
		t.Errorf("%s: with %d numbers and fuel %d: %v, it took %d, code %d; want nothing and code %d", name, len(input), fuel, got, n, c, want)
	}
}

// wantEnd: the program of a text comes to that, with just so much fuel and with more; with less it is not at its end.
func wantEnd(t *testing.T, text string, input []int64, took int, want api.Result) {
	t.Helper()
	p := program(t, text)
	for _, fuel := range []int{took, took + 1, took + 2, 2 * took, api.MaxFuel} {
		wantRun(t, text, p, input, fuel, took, want)
	}
	for fuel := range took {
		got, n, c := ideal.Run(p, input, fuel)
		if got.Code != api.ErrFuel || n != fuel || c != 0 || len(got.Cells) != len(want.Cells) {
			t.Errorf("%s: fuel %d of %d: %v, it took %d, code %d", text, fuel, took, got, n, c)
		}
		if len(got.Out) > len(want.Out) || !slices.Equal(got.Out, want.Out[:len(got.Out)]) {
			t.Errorf("%s: fuel %d of %d: printed %v, want the beginning of %v", text, fuel, took, got.Out, want.Out)
		}
	}
}

// TestExpressions: what each says, and how many instructions it is; a print and the end are two more.
func TestExpressions(t *testing.T) {
	const ahead = "let a 2 let b 3 (set a (num 7)) (put a (num 1) (num 8)) (read b) (put b (num 2) (num -4)) "
	const tookAhead = 2 + 3 + 1 + 3
	for _, c := range []struct {
		text string
		took int
		says int64
	}{
		{"(num 0)", 1, 0},
		{"(num 5)", 1, 5},
		{"(num -5)", 1, -5},
		{"(var a)", 1, 7},
		{"(var b)", 1, 9},
		{"(get a (num 0))", 2, 7},
		{"(get a (num 1))", 2, 8},
		{"(get b (num 0))", 2, 9},
		{"(get b (num 1))", 2, 0},
		{"(get b (num 2))", 2, -4},
		{"(get b (get b (num 1)))", 3, 9},
		{"(get a (sub (var a) (num 6)))", 4, 8},
		{"(add (num 3) (num 4))", 3, 7},
		{"(add (num -3) (var b))", 3, 6},
		{"(sub (num 3) (num 5))", 3, -2},
		{"(sub (num 5) (num 3))", 3, 2},
		{"(mul (num 6) (num -7))", 3, -42},
		{"(mul (var b) (num 0))", 3, 0},
		{"(less (num 3) (num 4))", 3, 1},
		{"(less (num 4) (num 4))", 3, 0},
		{"(less (num 5) (num 4))", 3, 0},
		{"(less (num -5) (num 4))", 3, 1},
		{"(less (num 4) (num -5))", 3, 0},
		{"(same (num 4) (num 4))", 3, 1},
		{"(same (num 4) (num 5))", 3, 0},
		{"(same (num 5) (num 4))", 3, 0},
		{"(same (num 4) (num -4))", 3, 0},
		{"(sub (sub (num 1) (num 2)) (sub (num 3) (num 9)))", 7, 5},
		{"(sub (num 1) (sub (num 2) (sub (num 3) (num 9))))", 7, -7},
		{"(sub (sub (sub (num 1) (num 2)) (num 3)) (num 9))", 7, -13},
		{"(add (mul (get a (num 1)) (var b)) (less (var a) (var b)))", 8, 73},
	} {
		wantEnd(t, ahead+"(print "+c.text+")", nums(9), tookAhead+c.took+2, api.Result{Out: nums(c.says), Cells: nums(7, 8, 9, 0, -4)})
	}
}

// TestStatements: what each does, and how many instructions it is.
func TestStatements(t *testing.T) {
	type result = api.Result
	for _, c := range []struct {
		text  string
		input []int64
		took  int // and the end
		want  api.Result
	}{
		{"let a 2 let b 2 (set a (num 5))", nil, 2, result{Cells: nums(5, 0, 0, 0)}},
		{"let a 2 let b 2 (set b (num 5))", nil, 2, result{Cells: nums(0, 0, 5, 0)}},
		{"let a 2 (set a (num 5)) (set a (num 6))", nil, 4, result{Cells: nums(6, 0)}},
		{"let a 2 (set a (num 5)) (set a (add (var a) (var a)))", nil, 6, result{Cells: nums(10, 0)}},
		{"let a 2 let b 2 (put a (num 0) (num 5))", nil, 3, result{Cells: nums(5, 0, 0, 0)}},
		{"let a 2 let b 2 (put a (num 1) (num 5))", nil, 3, result{Cells: nums(0, 5, 0, 0)}},
		{"let a 2 let b 2 (put b (num 0) (num 5))", nil, 3, result{Cells: nums(0, 0, 5, 0)}},
		{"let a 2 let b 2 (put b (num 1) (num 5))", nil, 3, result{Cells: nums(0, 0, 0, 5)}},
		{"let a 2 (put a (sub (num 3) (num 2)) (mul (num 3) (num 2)))", nil, 7, result{Cells: nums(0, 6)}},
		{"(print (num 5))", nil, 2, result{Out: nums(5)}},
		{"(print (num 5)) (print (num 5)) (print (num -6))", nil, 6, result{Out: nums(5, 5, -6)}},
		{"let a 2 let b 2 (read a)", nums(5), 1, result{Cells: nums(5, 0, 0, 0)}},
		{"let a 2 let b 2 (read b) (read a)", nums(5, 6, 7), 2, result{Cells: nums(6, 0, 5, 0)}},
		{"let a 1 (read a) (read a)", nums(5, 6), 2, result{Cells: nums(6)}},
		{"(commit)", nil, 1, result{}},
		{"let a 1 (read a) (commit) (print (var a)) (commit) (commit)", nums(5), 6, result{Out: nums(5), Cells: nums(5)}},
	} {
		wantEnd(t, c.text, c.input, c.took+1, c.want)
	}
}

// TestWhile: its body is done never, once and several times; E is asked once more than that.
func TestWhile(t *testing.T) {
	const ask, round = 3 + 1, 2 + 4 + 1
	for times := range 6 {
		n := int64(times)
		text := "let a 1 let b 1 (read b) (while (less (var a) (var b)) ((print (var a)) (set a (add (var a) (num 1)))))"
		want := api.Result{Cells: nums(n, n)}
		for i := range n {
			want.Out = append(want.Out, i)
		}
		wantEnd(t, text, nums(n), 1+times*(ask+round)+ask+1, want)
	}
	wantEnd(t, "(while (num 0) ((print (num 1))))", nil, 3, api.Result{})
	wantEnd(t, "(while (num 0) ())", nil, 3, api.Result{})
	// Any number but 0 says that it goes on.
	for _, n := range nums(1, -1, 2, 1<<32, most, least) {
		wantEnd(t, "let a 1 (read a) (while (var a) ((read a)))", nums(n, n, 0), 1+2*(2+1+1)+2+1, api.Result{Cells: nums(0)})
	}
}

// TestIf: on both sides, with and without Else and Body; that Body was done is one more instruction, be it empty.
func TestIf(t *testing.T) {
	for _, c := range []struct {
		lists  string
		yes    []int64
		tookOf [2]int // E is 0, E is not
		no     []int64
	}{
		{"((print (num 5))) ((print (num 6)))", nums(5), [2]int{2, 3}, nums(6)},
		{"((print (num 5))) ()", nums(5), [2]int{0, 3}, nil},
		{"() ((print (num 6)))", nil, [2]int{2, 1}, nums(6)},
		{"() ()", nil, [2]int{0, 1}, nil},
		{"((print (num 5)) (commit) (print (num 7))) ((print (num 6)) (commit))", nums(5, 7), [2]int{3, 6}, nums(6)},
	} {
		text := "let a 1 (read a) (if (var a) " + c.lists + ") (print (num 9))"
		wantEnd(t, text, nums(0), 3+c.tookOf[0]+3, api.Result{Out: append(slices.Clone(c.no), 9), Cells: nums(0)})
		for _, n := range nums(1, -1, 2, 1<<32, most, least) {
			wantEnd(t, text, nums(n), 3+c.tookOf[1]+3, api.Result{Out: append(slices.Clone(c.yes), 9), Cells: nums(n)})
		}
	}
}

// TestInOthers: statements that stand in others.
func TestInOthers(t *testing.T) {
	// An inner round takes 4 to ask, 8 to print, 4 to count, 1 more; an outer one 4 to ask, 2 to set, 3 of these and 4 to ask at last, 4 to count, 1 more.
	inner := 4 + 8 + 4 + 1
	outer := 4 + 2 + 3*inner + 4 + 4 + 1
	wantEnd(t, "let i 1 let j 1 (while (less (var i) (num 2)) ("+
		"(set j (num 0))"+
		"(while (less (var j) (num 3)) ((print (add (mul (num 10) (var i)) (add (var j) (num 0)))) (set j (add (var j) (num 1)))))"+
		"(set i (add (var i) (num 1)))))",
		nil, 2*outer+4+1, api.Result{Out: nums(0, 1, 2, 10, 11, 12), Cells: nums(2, 3)})

	// Of each number: is it 1, is it 2, or another one?
	text := "let a 1 (read a) (while (var a) (" +
		"(if (same (var a) (num 1)) ((print (num 10))) ((if (same (var a) (num 2)) ((print (num 20))) ((print (num 30)) (commit)))))" +
		"(read a)))"
	const one, two, other = 4 + 2 + 1, 4 + 4 + 2 + 1, 4 + 4 + 2 + 1
	wantEnd(t, text, nums(1, 2, 3, 1, 0), 1+(2+one+1+1)+(2+two+1+1)+(2+other+1+1)+(2+one+1+1)+2+1,
		api.Result{Out: nums(10, 20, 30, 10), Cells: nums(0)})

	// A while in both lists of an if.
	text = "let a 1 (read a) (if (less (var a) (num 0)) ((while (var a) ((set a (add (var a) (num 1)))))) ((while (var a) ((set a (sub (var a) (num 1)))))))"
	const round = 2 + 4 + 1
	wantEnd(t, text, nums(-3), 1+4+3*round+2+1+1, api.Result{Cells: nums(0)})
	wantEnd(t, text, nums(2), 1+4+2*round+2+1, api.Result{Cells: nums(0)})
}

// TestPrograms: what they come to, whole.
func TestPrograms(t *testing.T) {
	wantEnd(t, "let n 1 let a 1 let b 1 let c 1 (read n) (set b (num 1)) (while (var n) ("+
		"(print (var a)) (set c (add (var a) (var b))) (set a (var b)) (set b (var c)) (set n (sub (var n) (num 1)))))",
		nums(8), 1+2+8*17+2+1, api.Result{Out: nums(0, 1, 1, 2, 3, 5, 8, 13), Cells: nums(0, 21, 34, 34)})
	wantEnd(t, "let a 4 let i 1 (while (less (var i) (num 4)) ((read i) (put a (var i) (mul (var i) (var i)))))",
		nums(2, 0, 3, 1, 4, 9), 4*(4+1+5+1)+4+1+5, api.Result{Code: api.ErrIndex, Cells: nums(0, 1, 4, 9, 4)})
}
