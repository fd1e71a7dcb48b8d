package ideal_test

import (
	"fmt"
	"slices"
	"strings"
	"testing"

	"overwinter/api"
	"overwinter/ideal"
)

// change: from this instruction on, the cells and what was printed are these.
type change struct {
	from       int
	out, cells []int64
}

// wantTrace: with each fuel, what was printed and the cells as they are then; from took on the code is no longer ErrFuel.
func wantTrace(t *testing.T, text string, input []int64, took, code int, trace []change) {
	t.Helper()
	p := program(t, text)
	now := trace[0]
	for fuel := range took + 5 {
		if i := slices.IndexFunc(trace, func(c change) bool { return c.from == fuel }); i >= 0 {
			now = trace[i]
		}
		want := api.Result{Code: api.ErrFuel, Out: now.out, Cells: now.cells}
		if fuel >= took {
			want.Code = code
		}
		wantRun(t, text, p, input, fuel, min(fuel, took), want)
	}
}

// TestEachFuel: of each statement the instruction is known that does it.
func TestEachFuel(t *testing.T) {
	wantTrace(t, "(print (num 5)) (print (add (num 1) (num 2))) (commit)", nil, 8, 0, []change{
		{0, nil, nil}, {2, nums(5), nil}, {6, nums(5, 3), nil},
	})
	wantTrace(t, "let a 2 (set a (num 5)) (put a (num 1) (num 6)) (read a) (read a)", nums(7, 8), 8, 0, []change{
		{0, nil, nums(0, 0)}, {2, nil, nums(5, 0)}, {5, nil, nums(5, 6)}, {6, nil, nums(7, 6)}, {7, nil, nums(8, 6)},
	})
	// A round is: var, num, less, while; var, print; var, num, add, set; one more.
	wantTrace(t, "let a 1 (while (less (var a) (num 2)) ((print (var a)) (set a (add (var a) (num 1)))))", nil, 27, 0, []change{
		{0, nil, nums(0)}, {6, nums(0), nums(0)}, {10, nums(0), nums(1)}, {17, nums(0, 1), nums(1)}, {21, nums(0, 1), nums(2)},
	})
	wantTrace(t, "(if (num 1) ((print (num 5))) ((print (num 6)))) (print (num 7))", nil, 8, 0, []change{
		{0, nil, nil}, {4, nums(5), nil}, {7, nums(5, 7), nil},
	})
	wantTrace(t, "(if (num 0) ((print (num 5))) ((print (num 6)))) (print (num 7))", nil, 7, 0, []change{
		{0, nil, nil}, {4, nums(6), nil}, {6, nums(6, 7), nil},
	})
}

// TestEachFuelToAStop: the instruction that stops is one that was taken; it changes nothing, and what is behind it is not done.
func TestEachFuelToAStop(t *testing.T) {
	wantTrace(t, "let a 2 (print (num 1)) (put a (num 2) (num 5)) (print (num 3)) (set a (num 4))", nil, 5, api.ErrIndex, []change{
		{0, nil, nums(0, 0)}, {2, nums(1), nums(0, 0)},
	})
	// F is asked for ahead of the put itself.
	wantTrace(t, "let a 2 let b 1 (put a (num 2) (get b (num 1))) (set b (num 4))", nil, 3, api.ErrIndex, []change{
		{0, nil, nums(0, 0, 0)},
	})
	wantTrace(t, "let a 2 (set a (num 7)) (print (add (get a (num 0)) (get a (num -1)))) (print (num 3))", nil, 6, api.ErrIndex, []change{
		{0, nil, nums(0, 0)}, {2, nil, nums(7, 0)},
	})
	wantTrace(t, "let a 1 (read a) (print (var a)) (read a) (print (var a))", nums(6), 4, api.ErrInput, []change{
		{0, nil, nums(0)}, {1, nil, nums(6)}, {3, nums(6), nums(6)},
	})
	wantTrace(t, "let a 1 (while (num 1) ((if (num 1) ((read a)) ())))", nums(6), 12, api.ErrInput, []change{
		{0, nil, nums(0)}, {5, nil, nums(6)},
	})
	wantTrace(t, "let a 1 (while (get a (num 1)) ((print (num 1)))) (print (num 2))", nil, 2, api.ErrIndex, []change{{0, nil, nums(0)}})
	wantTrace(t, "let a 1 (if (get a (num 1)) ((print (num 1))) ((print (num 2))))", nil, 2, api.ErrIndex, []change{{0, nil, nums(0)}})
	wantTrace(t, "let a 1 (read a)", nil, 1, api.ErrInput, []change{{0, nil, nums(0)}})
}

// TestFuelOfNothing: without statements there is only the end.
func TestFuelOfNothing(t *testing.T) {
	for _, text := range []string{"", "let a 1", "let a 48", "let a 3 let b 4"} {
		p := program(t, text)
		cells := make([]int64, 0)
		for _, v := range p.Vars {
			cells = append(cells, make([]int64, v.Size)...)
		}
		wantRun(t, text, p, nil, 0, 0, api.Result{Code: api.ErrFuel, Cells: cells})
		for _, fuel := range []int{1, 2, api.MaxFuel} {
			wantRun(t, text, p, nil, fuel, 1, api.Result{Cells: cells})
			wantRun(t, text, p, nums(5, 6), fuel, 1, api.Result{Cells: cells})
		}
	}
	wantRun(t, "empty lists", api.Program{Vars: []api.Var{}, Body: []api.Stmt{}}, nums(), 1, 1, api.Result{})
}

// TestEndless: it takes all the fuel that there is.
func TestEndless(t *testing.T) {
	for fuel := range api.MaxFuel + 1 {
		wantRun(t, "empty", program(t, "(while (num 1) ())"), nil, fuel, fuel, api.Result{Code: api.ErrFuel})
	}
	text := "let a 1 (while (num 1) ((set a (add (var a) (num 1))) (print (var a))))"
	p := program(t, text)
	const round = 2 + 4 + 2 + 1
	for fuel := 0; fuel <= api.MaxFuel; fuel += 7 {
		want := api.Result{Code: api.ErrFuel, Cells: nums(int64((fuel + round - 6) / round))}
		for i := range (fuel + round - 8) / round {
			want.Out = append(want.Out, int64(i+1))
		}
		wantRun(t, text, p, nil, fuel, fuel, want)
	}
	for _, text := range []string{
		"(while (num 1) ((while (num 1) ((while (num 1) ())))))",
		"(while (num 1) ((if (num 0) () ())))",
		"(while (num 1) ((commit) (while (num 0) ())))",
		"let a 1 (while (same (var a) (var a)) ((set a (sub (var a) (num 1))) (if (var a) ((commit)) ())))",
	} {
		got, n, c := ideal.Run(program(t, text), nil, api.MaxFuel)
		if got.Code != api.ErrFuel || n != api.MaxFuel || c != 0 {
			t.Errorf("%s: %v, it took %d, code %d", text, got, n, c)
		}
	}
}

// TestAllOfTheFuel: a program of just MaxFuel instructions comes to its end; one of one more does not.
func TestAllOfTheFuel(t *testing.T) {
	// A round takes 4 to ask, 4 to count and 1 more; at last come 4 to ask, and the end.
	const rounds = (api.MaxFuel - 5) / 9
	text := fmt.Sprintf("let a 1 (while (less (var a) (num %d)) ((set a (add (var a) (num 1))))) ", rounds)
	text += strings.Repeat("(commit)", api.MaxFuel-9*rounds-5)
	cells := nums(rounds)
	wantRun(t, "just enough", program(t, text), nil, api.MaxFuel, api.MaxFuel, api.Result{Cells: cells})
	wantRun(t, "one less", program(t, text), nil, api.MaxFuel-1, api.MaxFuel-1, api.Result{Code: api.ErrFuel, Cells: cells})
	wantRun(t, "one more", program(t, text+"(commit)"), nil, api.MaxFuel, api.MaxFuel, api.Result{Code: api.ErrFuel, Cells: cells})
}

// TestFuelOutOfRange: and just within.
func TestFuelOutOfRange(t *testing.T) {
	for _, text := range []string{"", "let a 2 (print (num 5)) (read a)", "(while (num 1) ())"} {
		p := program(t, text)
		for _, fuel := range []int{-1, -2, -api.MaxFuel, least, api.MaxFuel + 1, 2 * api.MaxFuel, 1 << 32, 1<<32 + 1, most} {
			wantCode(t, text, p, nums(6), fuel, api.ErrRange)
			wantCode(t, text, p, make([]int64, api.MaxInput+1), fuel, api.ErrRange)
		}
		for _, fuel := range []int{0, 1, api.MaxFuel - 1, api.MaxFuel} {
			if _, _, c := ideal.Run(p, nums(6), fuel); c != 0 {
				t.Errorf("%s: fuel %d: code %d, want 0", text, fuel, c)
			}
		}
	}
}
