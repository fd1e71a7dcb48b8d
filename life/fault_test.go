package life_test

import (
	"fmt"
	"runtime/debug"
	"slices"
	"testing"

	"overwinter/api"
	"overwinter/compile"
	"overwinter/life"
)

func num(n int64) api.Expr                     { return api.Expr{Op: api.ENum, N: n} }
func first(v int) api.Expr                     { return api.Expr{Op: api.EVar, V: v} }
func get(v int, e api.Expr) api.Expr           { return api.Expr{Op: api.EGet, V: v, L: []api.Expr{e}} }
func two(op int, a, b api.Expr) api.Expr       { return api.Expr{Op: op, L: []api.Expr{a, b}} }
func set(v int, e api.Expr) api.Stmt           { return api.Stmt{Op: api.SSet, V: v, E: e} }
func put(v int, e, f api.Expr) api.Stmt        { return api.Stmt{Op: api.SPut, V: v, E: e, F: f} }
func tell(e api.Expr) api.Stmt                 { return api.Stmt{Op: api.SPrint, E: e} }
func read(v int) api.Stmt                      { return api.Stmt{Op: api.SRead, V: v} }
func while(e api.Expr, l ...api.Stmt) api.Stmt { return api.Stmt{Op: api.SWhile, E: e, Body: l} }
func commit() api.Stmt                         { return api.Stmt{Op: api.SCommit} }

func either(e api.Expr, body, other []api.Stmt) api.Stmt {
	return api.Stmt{Op: api.SIf, E: e, Body: body, Else: other}
}

func list(l ...api.Stmt) []api.Stmt     { return l }
func commits(n int) []api.Stmt          { return slices.Repeat(list(commit()), n) }
func one(name string, size int) api.Var { return api.Var{Name: name, Size: size} }

// abc: three variables, whose cells begin at 0, 2 and 3.
func abc() []api.Var { return []api.Var{one("a", 2), one("b", 1), one("c", 3)} }

// nest puts so many around one.
func nest[T any](deep int, x T, around func(T) T) T {
	for range deep {
		x = around(x)
	}
	return x
}

func gets(e api.Expr) api.Expr { return get(0, e) }
func ifs(s api.Stmt) api.Stmt  { return either(num(1), list(s), nil) }

// wantNone: of New there is only this code, and of Run, too, whatever the steps and the fuel are.
func wantNone(t *testing.T, name string, p api.Program, input []int64, code int) {
	t.Helper()
	if x, c := life.New(p, input); x != nil || c != code {
		t.Errorf("%s: New: %v, code %d, want none, %d", name, x, c, code)
	}
	for _, l := range [][]api.Step{nil, steps(run(5), crash(0)), steps(run(-1)), steps(api.Step{}), steps(tear(1, -1, 0))} {
		for _, fuel := range []int{0, 99, -1, api.MaxFuel + 1} {
			wantNoRun(t, name, p, input, l, fuel, code)
		}
	}
	wantNoRun(t, name, p, input, make([]api.Step, api.MaxSteps), 1, code)
	for _, n := range []int{api.MaxSteps + 1, 5000} {
		wantNoRun(t, name, p, input, make([]api.Step, n), -1, api.ErrMany)
		wantNoRun(t, name, p, input, slices.Repeat(steps(crash(0)), n), 9, api.ErrMany)
	}
}

// wantNoRun: of Run there is only this code.
func wantNoRun(t *testing.T, name string, p api.Program, input []int64, l []api.Step, fuel, code int) {
	t.Helper()
	r, c := life.Run(p, input, l, fuel)
	if r.Code != 0 || len(r.Out) != 0 || len(r.Cells) != 0 || c != code {
		t.Errorf("%s: Run of %d steps, fuel %d: %v, code %d, want nothing, %d", name, len(l), fuel, r, c, code)
	}
}

// wrongs: what is no program, by the code that compile.Make tells.
func wrongs() map[int][]api.Program {
	of := func(x ...api.Stmt) api.Program {
		return api.Program{Vars: abc(), Body: slices.Concat(list(tell(num(5)), commit()), x, list(tell(num(6))))}
	}
	with := func(x ...api.Var) api.Program { return api.Program{Vars: x, Body: list(tell(num(6)))} }
	nine := slices.Repeat([]api.Var{one("a", 1)}, api.MaxVars+1)
	for i := range nine {
		nine[i].Name = string(rune('a' + i))
	}
	return map[int][]api.Program{
		api.ErrMany:  {with(nine...), of(commits(api.MaxParts)...), of(while(num(0), commits(api.MaxParts)...))},
		api.ErrName:  {with(one("", 1)), with(one("a", 1), one("B", 1)), with(one("abcdefghi", 1))},
		api.ErrTwice: {with(one("a", 1), one("b", 1), one("a", 1))},
		api.ErrRange: {with(one("a", 0)), with(one("a", 48), one("b", 1)), with(one("a", most)), with(one("a", least)), of(read(3)), of(set(-1, num(1))), of(tell(first(most))), {Body: list(tell(first(0)))}},
		api.ErrKind:  {of(api.Stmt{}), of(api.Stmt{Op: 8}), of(tell(api.Expr{Op: 9})), of(api.Stmt{Op: least}), of(either(num(1), nil, list(api.Stmt{Op: -1})))},
		api.ErrForm:  {of(api.Stmt{Op: api.SCommit, V: 1}), of(tell(api.Expr{Op: api.EAdd})), of(while(num(0), api.Stmt{Op: api.SRead, E: num(1)}))},
		api.ErrDeep:  {of(nest(api.MaxDeep+1, commit(), ifs)), of(tell(nest(api.MaxDeep, num(0), gets)))},
	}
}

// selves: lists that hold themselves.
func selves() []api.Program {
	e := []api.Expr{{Op: api.EGet}}
	e[0].L = e
	both := []api.Expr{{Op: api.EAdd}, {Op: api.EAdd}}
	both[0].L, both[1].L = both, both
	body := list(while(num(1)), commit())
	body[0].Body = body
	return []api.Program{{Vars: abc(), Body: list(tell(e[0]))}, {Body: list(tell(both[0]))}, {Body: body}}
}

// TestNoPrograms: compile.Make's code is told, ahead of ErrRange of the input.
func TestNoPrograms(t *testing.T) {
	met := wrongs()
	for code := api.ErrRange; code <= api.ErrTwice; code++ {
		if code == api.ErrShort || code == api.ErrText {
			continue // those are of texts
		}
		if len(met[code]) == 0 {
			t.Errorf("no program has code %d", code)
		}
		for i, p := range met[code] {
			name := fmt.Sprintf("code %d, program %d", code, i)
			if _, c := compile.Make(p); c != code {
				t.Fatalf("a test is written wrong: %s has code %d", name, c)
			}
			for _, input := range [][]int64{nil, nums(1, 2), counted(api.MaxInput), counted(api.MaxInput + 1), counted(5000)} {
				wantNone(t, name, p, input, code)
			}
		}
	}
	for _, p := range selves() {
		wantNone(t, "endless", p, counted(api.MaxInput+1), api.ErrDeep)
	}
}

// TestVeryDeep: deeper than calls could stand in one another.
func TestVeryDeep(t *testing.T) {
	defer debug.SetMaxStack(debug.SetMaxStack(16 << 20))
	p := api.Program{Vars: abc(), Body: list(tell(nest(300000, num(0), gets)))}
	if x, c := life.New(p, nil); x != nil || c != api.ErrDeep {
		t.Errorf("New: code %d", c)
	}
	wantNoRun(t, "deep", api.Program{Body: list(nest(300000, commit(), ifs))}, nil, nil, 1, api.ErrDeep)
}

// wrongSteps: by their codes.
func wrongSteps() map[int][]api.Step {
	var kinds, ranges []api.Step
	for _, kind := range []int{0, -1, 4, 5, -2, 1 << 32, 1<<32 + 1, 1<<32 + 3, least, least + 1, most} {
		for _, n := range []int{0, 1, -1, api.MaxFuel + 1} {
			kinds = append(kinds, api.Step{Kind: kind, N: n}, api.Step{Kind: kind, N: n, K: -1, Mask: allBits}, api.Step{Kind: kind, N: n, K: n, Mask: 1})
		}
	}
	for _, n := range []int{-1, api.MaxFuel + 1, api.MaxFuel + 2, -api.MaxFuel, 1 << 32, 1<<32 + 5, -1 << 32, least, least + 5, most} {
		for _, k := range []int{0, 1, -1, most, least} {
			ranges = append(ranges, api.Step{Kind: api.LRun, N: n, K: k, Mask: 1}, tear(n, k, 0), tear(n, k, allBits))
		}
	}
	for _, k := range []int{-1, -2, -6, -1 << 32, 1 - 1<<32, least, least + 1} {
		for _, n := range []int{0, 1, 4, 99, api.MaxFuel} {
			ranges = append(ranges, tear(n, k, 0), tear(n, k, 1), tear(n, k, allBits))
		}
	}
	return map[int][]api.Step{api.ErrKind: kinds, api.ErrRange: ranges}
}

// TestWrongSteps: they do nothing, wherever a life is; and what comes behind them is as if they had not been.
func TestWrongSteps(t *testing.T) {
	p := program(t, twoCommits)
	for code, l := range wrongSteps() {
		for _, s := range l {
			for n := range 13 {
				x := born(t, p, 7, 8)
				x.Do(run(n))
				m, was, words, gen := x.Machine, x.Now(), x.All(), x.Gen()
				if got, c := x.Do(s); got != 0 || c != code {
					t.Errorf("behind %d: Do of %v: %d, code %d, want 0, %d", n, s, got, c, code)
				}
				wantNow(t, "behind a step that has a code", x, was)
				if x.Machine != m || !slices.Equal(x.All(), words) || x.Gen() != gen || x.Torn() {
					t.Errorf("behind %d: Do of %v did something", n, s)
				}
				wantDo(t, "behind a step that has a code", x, run(99), 11-min(n, 11), ended(nums(7, 8), 9, 8))
				if x.Torn() || x.Gen() != 2 {
					t.Errorf("behind %v a commit is not done", s)
				}
			}
		}
	}
}

// TestWhatAKindDoesNotNeed: may be anything: K and Mask of LRun, N and K of LCrash.
func TestWhatAKindDoesNotNeed(t *testing.T) {
	for _, k := range []int{0, 1, -1, least, most} {
		for _, mask := range []uint64{0, 1, 7, allBits} {
			x := bornOf(t, twoCommits, 7, 8)
			wantDo(t, "LRun", x, api.Step{Kind: api.LRun, N: 5, K: k, Mask: mask}, 5, goesOn(nums(7), 7, 8))
			for _, n := range []int{0, 1, -1, 99, api.MaxFuel + 1, least, most} {
				wantDo(t, "LCrash", x, api.Step{Kind: api.LCrash, N: n, K: k, Mask: mask}, 0, goesOn(nums(7), 7, 0))
			}
			wantDo(t, "at last", x, run(99), 7, ended(nums(7, 8), 9, 8))
		}
	}
}

// TestRunTellsTheFirst: ErrMany, New's code, the code of the first step that has one, that of the fuel.
func TestRunTellsTheFirst(t *testing.T) {
	p := program(t, twoCommits)
	kind, ranged := api.Step{Kind: 9}, run(-1)
	for _, c := range []struct {
		name  string
		input []int64
		l     []api.Step
		fuel  int
		code  int
	}{
		{"a step of no kind", nil, steps(kind), 9, api.ErrKind},
		{"it is the last one", nil, steps(run(1), crash(0), tear(9, 1, 1), kind), 9, api.ErrKind},
		{"of many", nil, append(slices.Repeat(steps(run(1)), api.MaxSteps-1), kind), 9, api.ErrKind},
		{"no kind, then out of range", nil, steps(kind, ranged), 9, api.ErrKind},
		{"out of range, then no kind", nil, steps(run(1), ranged, kind), 9, api.ErrRange},
		{"K below 0, then no kind", nil, steps(tear(0, -1, 0), kind), 9, api.ErrRange},
		{"no kind, and the fuel", nil, steps(kind), -1, api.ErrKind},
		{"behind the end", nil, steps(run(99), kind), 0, api.ErrKind},
		{"fuel below 0", nil, nil, -1, api.ErrRange},
		{"too much fuel", nil, nil, api.MaxFuel + 1, api.ErrRange},
		{"the least fuel", nil, steps(run(1)), least, api.ErrRange},
		{"the most fuel", nil, steps(run(99)), most, api.ErrRange},
		{"the input, and a step of no kind", counted(41), steps(kind), 9, api.ErrRange},
		{"the input, and the fuel", counted(41), nil, -1, api.ErrRange},
		{"too many, and all else", counted(41), slices.Repeat(steps(ranged), 101), -1, api.ErrMany},
		{"too many, and the input", counted(41), slices.Repeat(steps(run(1)), 101), 9, api.ErrMany},
		{"too many, and of no kind", nil, slices.Repeat(steps(kind), 101), 9, api.ErrMany},
	} {
		wantNoRun(t, c.name, p, c.input, c.l, c.fuel, c.code)
	}
	wantRun(t, "the most fuel that may be", p, nums(7, 8), nil, api.MaxFuel, ended(nums(7, 8), 9, 8))
	for code, l := range wrongSteps() {
		for _, s := range l {
			wantNoRun(t, "first", p, nums(7, 8), steps(s), 99, code)
			wantNoRun(t, "behind others", p, nums(7, 8), steps(run(99), crash(0), s, run(99)), 99, code)
		}
	}
}
