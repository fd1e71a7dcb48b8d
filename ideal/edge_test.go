package ideal_test

import (
	"fmt"
	"math/big"
	"slices"
	"strings"
	"testing"

	"overwinter/api"
	"overwinter/ideal"
)

// counted: so many numbers, no two of them the same.
func counted(n int) []int64 {
	var l []int64
	for i := range n {
		l = append(l, int64(i*i-3))
	}
	return l
}

// TestInputs: of which all is read, and one more; of MaxInput numbers, too.
func TestInputs(t *testing.T) {
	const round = 4 + 1 + 2 + 4 + 1
	for _, n := range []int{0, 1, 2, api.MaxInput - 1, api.MaxInput} {
		input := counted(n)
		loop := "let a 1 let i 1 (while (less (var i) (num %d)) ((read a) (print (var a)) (set i (add (var i) (num 1)))))"
		want := api.Result{Out: input, Cells: nums(0, int64(n))}
		if n > 0 {
			want.Cells[0] = input[n-1]
		}
		wantEnd(t, fmt.Sprintf(loop, n), input, n*round+4+1, want)
		want.Code = api.ErrInput
		wantEnd(t, fmt.Sprintf(loop, n+1), input, n*round+4+1, want)
	}
}

// TestInputTooLong: nothing is, whether it would be read or not.
func TestInputTooLong(t *testing.T) {
	for _, text := range []string{"", "(print (num 5))", "let a 1 (read a)", "(while (num 1) ())"} {
		p := program(t, text)
		for _, n := range []int{1, 2, api.MaxInput, 5000} {
			for _, fuel := range []int{0, 1, 5, api.MaxFuel, -1, api.MaxFuel + 1} {
				wantCode(t, text, p, counted(api.MaxInput+n), fuel, api.ErrRange)
			}
		}
		if _, _, c := ideal.Run(p, counted(api.MaxInput), 5); c != 0 {
			t.Errorf("%s: MaxInput numbers: code %d, want 0", text, c)
		}
	}
}

// rightward: an expression in which so many stand, one in the other, each as the second one: n, and all above it.
func rightward(op string, deep int, n int64) string {
	if deep == 1 {
		return fmt.Sprintf("(num %d)", n)
	}
	return fmt.Sprintf("(%s (num %d) %s)", op, n, rightward(op, deep-1, n+1))
}

// leftward: likewise, each as the first one.
func leftward(op string, deep int, n int64) string {
	if deep == 1 {
		return fmt.Sprintf("(num %d)", n)
	}
	return fmt.Sprintf("(%s %s (num %d))", op, leftward(op, deep-1, n+1), n)
}

// TestDeepExpressions: they stand in MaxDeep others.
func TestDeepExpressions(t *testing.T) {
	const d = api.MaxDeep
	if d != 12 {
		t.Fatal("the sums are of another MaxDeep")
	}
	const took = 2*d - 1
	for text, says := range map[string]int64{
		rightward("add", d, 1):  78,
		leftward("add", d, 1):   78,
		rightward("sub", d, 1):  -6,        // 1-2+3-4 .. -12
		leftward("sub", d, 1):   12 - 66,   // 12-11- .. -1
		rightward("mul", d, 1):  479001600, // 12!
		leftward("mul", d, 1):   479001600,
		rightward("less", d, 1): 0, // 11 < 12 is 1, 10 < 1 is 0, .., 1 < 0
		leftward("less", d, 1):  0, // 12 < 11 is 0, 0 < 10 is 1, .., 1 < 1
		leftward("less", d, 2):  1, // likewise, .., 1 < 2
		rightward("same", d, 0): 1, // 10 is not 11, nor 9 then 0, .., but 0 is 0
	} {
		wantEnd(t, "(print "+text+")", nil, took+2, api.Result{Out: nums(says)})
		wantEnd(t, "let b 1 let a 1 (put a (num 0) "+text+")", nil, 1+took+2, api.Result{Cells: nums(0, says)})
	}
	e := "(num 1)"
	for range d - 1 {
		e = "(get a " + e + ")"
	}
	// Of an odd number of gets comes the 2 that the first of them tells.
	wantEnd(t, "let b 1 let a 3 (put a (num 1) (num 2)) (put a (num 2) (num 1)) (print "+e+")", nil, 3+3+d+2, api.Result{Out: nums(2), Cells: nums(0, 0, 2, 1)})
}

// TestDeepStatements: MaxDeep of them around one.
func TestDeepStatements(t *testing.T) {
	text, took := "(print (num 5))", 2
	for i := range api.MaxDeep - 1 {
		switch i % 3 {
		case 0:
			text, took = "(if (num 1) ("+text+") ())", took+3
		case 1:
			text, took = "(while (var a) ("+text+" (set a (num 0))))", took+2+2+1+2
		default:
			text, took = "(if (num 0) () ("+text+"))", took+2
		}
		wantEnd(t, "let a 1 (set a (num 1)) "+text+" (print (num 6))", nil, 2+took+2+1, api.Result{Out: nums(5, 6), Cells: nums(truth(i == 0))})
	}
	wantEnd(t, "(if (num 1) ("+strings.Repeat("(if (num 1) (", api.MaxDeep-1)+"(commit)"+strings.Repeat(") ())", api.MaxDeep-1)+") ())", nil, 3*api.MaxDeep+2, api.Result{})
}

func truth(is bool) int64 {
	if is {
		return 1
	}
	return 0
}

// filling: statements that give each cell of a variable a number of its own; and how many instructions they are.
func filling(name string, size, from int) (string, int) {
	text := ""
	for i := range size {
		text += fmt.Sprintf("(put %s (num %d) (num %d))", name, i, 100+from+i)
	}
	return text, 3 * size
}

// TestCellsOfVariables: Sizes of 1 and of MaxCells, and between others: the first cell, the last one, and those that there are not.
func TestCellsOfVariables(t *testing.T) {
	for _, c := range []struct {
		lets              string
		from, size, cells int
	}{
		{"let a 1", 0, 1, 1},
		{"let a 48", 0, 48, 48},
		{"let b 1 let a 1 let c 1", 1, 1, 3},
		{"let b 47 let a 1", 47, 1, 48},
		{"let b 1 let a 47", 1, 47, 48},
		{"let b 2 let a 3 let c 2", 2, 3, 7},
		{"let a 2 let b 2", 0, 2, 4},
		{"let b 2 let a 2", 2, 2, 4},
	} {
		size, from := int64(c.size), int64(c.from)
		for _, n := range nums(0, size-1, size/2, -1, size, size+1, -size, -from, api.MaxCells, 1<<32, -1<<32, most, least, least+from, most-from) {
			wantGet(t, c.lets, c.from, c.size, c.cells, n)
			wantPut(t, c.lets, c.from, c.size, c.cells, n)
		}
	}
}

// wantGet: the first cell and the last one have numbers of their own.
func wantGet(t *testing.T, lets string, from, size, cells int, n int64) {
	t.Helper()
	text := fmt.Sprintf("%s (put a (num %d) (num 8)) (put a (num 0) (num 7)) (print (get a (num %d)))", lets, size-1, n)
	want := api.Result{Cells: make([]int64, cells)}
	want.Cells[from+size-1] = 8
	want.Cells[from] = 7
	if n < 0 || n >= int64(size) {
		want.Code = api.ErrIndex
		wantEnd(t, text, nil, 3+3+2, want)
		return
	}
	want.Out = nums(want.Cells[from+int(n)])
	wantEnd(t, text, nil, 3+3+3+1, want)
}

func wantPut(t *testing.T, lets string, from, size, cells int, n int64) {
	t.Helper()
	text := fmt.Sprintf("%s (set a (num 6)) (put a (num %d) (num 7)) (commit)", lets, n)
	want := api.Result{Cells: make([]int64, cells)}
	want.Cells[from] = 6
	if n < 0 || n >= int64(size) {
		want.Code = api.ErrIndex
		wantEnd(t, text, nil, 2+3, want)
		return
	}
	want.Cells[from+int(n)] = 7
	wantEnd(t, text, nil, 2+3+1+1, want)
}

// TestAllCells: each cell of all variables is one of its own.
func TestAllCells(t *testing.T) {
	for _, sizes := range [][]int{{1}, {2, 1}, {1, 2, 3}, {6, 1, 1, 2, 3}, {1, 1, 1, 1, 1, 1, 1, 1}, {3, 3, 3, 3, 3, 3, 3, 3}, {9, 1, 5}} {
		lets, puts, took := "", "", 1
		var want api.Result
		for i, size := range sizes {
			name := string(rune('a' + i))
			lets += fmt.Sprintf("let %s %d ", name, size)
			text, n := filling(name, size, len(want.Cells))
			puts, took = puts+text, took+n
			for range size {
				want.Cells = append(want.Cells, int64(100+len(want.Cells)))
			}
		}
		wantEnd(t, lets+puts, nil, took, want)
	}
	// 48 cells, filled in a loop.
	want := api.Result{Cells: make([]int64, 48)}
	for i := range 47 {
		want.Cells[i+1] = int64(i * 3)
	}
	want.Cells[0] = 47
	wantEnd(t, "let i 1 let a 47 (while (less (var i) (num 47)) ((put a (var i) (mul (var i) (num 3))) (set i (add (var i) (num 1)))))",
		nil, 47*(4+5+4+1)+4+1, want)
}

// edges: numbers at the ends of what has 64 bits, and of what has 32.
func edges() []int64 {
	return nums(0, 1, -1, 2, -2, 3, most, most-1, least, least+1, 1<<62, -1<<62, 1<<32, 1<<32-1, -1<<32, 1<<31, -1<<31, 3037000499, 3037000500, -3037000500)
}

// wrapped: of 64 bits.
func wrapped(n *big.Int) int64 {
	return int64(new(big.Int).And(n, new(big.Int).SetUint64(1<<64-1)).Uint64())
}

// TestWrapsRound: sums, differences and products; what is less and what is the same hangs on the numbers themselves.
func TestWrapsRound(t *testing.T) {
	text := "let a 1 let b 1 (read a) (read b) (print (add (var a) (var b))) (print (sub (var a) (var b))) (print (mul (var a) (var b))) (print (less (var a) (var b))) (print (same (var a) (var b)))"
	for _, a := range edges() {
		for _, b := range edges() {
			x, y := big.NewInt(a), big.NewInt(b)
			wantEnd(t, text, nums(a, b), 2+5*4+1, api.Result{Cells: nums(a, b), Out: nums(
				wrapped(new(big.Int).Add(x, y)),
				wrapped(new(big.Int).Sub(x, y)),
				wrapped(new(big.Int).Mul(x, y)),
				truth(x.Cmp(y) < 0),
				truth(x.Cmp(y) == 0),
			)})
		}
	}
	for text, says := range map[string]int64{
		"(add (num 9223372036854775807) (num 1))":                      least,
		"(add (num -9223372036854775808) (num -1))":                    most,
		"(sub (num -9223372036854775808) (num 1))":                     most,
		"(sub (num 0) (num -9223372036854775808))":                     least,
		"(mul (num -9223372036854775808) (num -1))":                    least,
		"(mul (num 4294967296) (num 4294967296))":                      0,
		"(mul (num 9223372036854775807) (num 9223372036854775807))":    1,
		"(less (num -9223372036854775808) (num 9223372036854775807))":  1,
		"(less (num 9223372036854775807) (num -9223372036854775808))":  0,
		"(same (num -9223372036854775808) (num 9223372036854775807))":  0,
		"(same (num -9223372036854775808) (num -9223372036854775808))": 1,
	} {
		wantEnd(t, "(print "+text+")", nil, 5, api.Result{Out: nums(says)})
	}
}

// TestLongPrograms: as many parts as there may be.
func TestLongPrograms(t *testing.T) {
	wantEnd(t, strings.Repeat("(commit)", api.MaxParts), nil, api.MaxParts+1, api.Result{})
	wantEnd(t, strings.Repeat("(print (num 2))", api.MaxParts/2), nil, api.MaxParts+1, api.Result{Out: slices.Repeat(nums(2), api.MaxParts/2)})
}

// TestManyPrinted: as many as the fuel is enough for.
func TestManyPrinted(t *testing.T) {
	text := "(while (num 1) (" + strings.Repeat("(print (num 4))", 70) + "))"
	const round = 2 + 2*70 + 1
	n := api.MaxFuel/round*70 + (api.MaxFuel%round-2)/2
	wantRun(t, "many", program(t, text), nil, api.MaxFuel, api.MaxFuel, api.Result{Code: api.ErrFuel, Out: slices.Repeat(nums(4), n)})
}
