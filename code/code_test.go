package code_test

import (
	"fmt"
	"math"
	"slices"
	"strings"
	"testing"

	"overwinter/api"
	"overwinter/code"
)

// far: numbers that are far from all that a program may have, the smallest and the greatest one among them.
var far = []int{-2, 100, 1 << 32, -1 << 32, 1<<32 + 1, math.MaxInt, math.MaxInt - 1, math.MinInt, math.MinInt + 1}

const letters = "abcdefghijklmnopqrstuvwxyz"

func num(n int64) api.Expr                     { return api.Expr{Op: api.ENum, N: n} }
func first(v int) api.Expr                     { return api.Expr{Op: api.EVar, V: v} }
func get(v int, e api.Expr) api.Expr           { return api.Expr{Op: api.EGet, V: v, L: []api.Expr{e}} }
func two(op int, a, b api.Expr) api.Expr       { return api.Expr{Op: op, L: []api.Expr{a, b}} }
func set(v int, e api.Expr) api.Stmt           { return api.Stmt{Op: api.SSet, V: v, E: e} }
func put(v int, e, f api.Expr) api.Stmt        { return api.Stmt{Op: api.SPut, V: v, E: e, F: f} }
func tell(e api.Expr) api.Stmt                 { return api.Stmt{Op: api.SPrint, E: e} }
func read(v int) api.Stmt                      { return api.Stmt{Op: api.SRead, V: v} }
func while(e api.Expr, l ...api.Stmt) api.Stmt { return api.Stmt{Op: api.SWhile, E: e, Body: l} }
func commit() api.Stmt                         { return api.Stmt{Op: api.SCommit} }

func either(e api.Expr, body, other []api.Stmt) api.Stmt {
	return api.Stmt{Op: api.SIf, E: e, Body: body, Else: other}
}

func list(l ...api.Stmt) []api.Stmt { return l }

// commits: so many statements that have nothing in them.
func commits(n int) []api.Stmt {
	return slices.Repeat(list(commit()), n)
}

// vars: so many variables of one cell each.
func vars(n int) []api.Var {
	var l []api.Var
	for i := range n {
		l = append(l, api.Var{Name: string(letters[i%26]) + letters[:i/26], Size: 1})
	}
	return l
}

// sized: variables of these sizes.
func sized(sizes ...int) []api.Var {
	l := vars(len(sizes))
	for i, size := range sizes {
		l[i].Size = size
	}
	return l
}

// rich: each kind of statements and of expressions, one behind the other and one in another.
func rich() api.Program {
	return api.Program{
		Vars: []api.Var{{Name: "a", Size: 3}, {Name: "total", Size: 1}, {Name: "zzzzzzzz", Size: 44}},
		Body: list(
			read(1),
			set(0, two(api.EAdd, first(1), num(-7))),
			while(two(api.ELess, first(0), get(2, num(5))),
				put(2, two(api.ESub, first(0), num(1)), two(api.EMul, get(0, first(1)), get(2, get(0, num(2))))),
				either(two(api.ESame, first(2), num(math.MinInt64)),
					list(tell(num(math.MaxInt64)), commit()),
					list(while(num(0)), read(2), either(num(1), nil, list(commit())))),
				commit(),
			),
			either(num(0), list(set(1, num(4))), nil),
			tell(get(0, two(api.EAdd, num(0), first(2)))),
			commit(),
		),
	}
}

// programs: all of them are programs.
func programs() map[string]api.Program {
	one, three := sized(4), sized(3, 1, 2)
	return map[string]api.Program{
		"nothing":             {},
		"one variable alone":  {Vars: one},
		"three alone":         {Vars: three},
		"a commit":            {Body: list(commit())},
		"commits":             {Body: commits(5)},
		"no variable":         {Body: list(tell(two(api.EAdd, num(2), num(3))), commit(), while(num(0), tell(num(1))))},
		"set":                 {Vars: one, Body: list(set(0, num(9)))},
		"put":                 {Vars: one, Body: list(put(0, num(1), first(0)))},
		"print":               {Vars: one, Body: list(tell(get(0, num(3))))},
		"read":                {Vars: one, Body: list(read(0))},
		"while":               {Vars: one, Body: list(while(first(0), read(0)))},
		"while of nothing":    {Body: list(while(num(0)))},
		"if":                  {Vars: one, Body: list(either(first(0), list(read(0)), list(commit(), commit())))},
		"if of nothing":       {Body: list(either(num(0), nil, nil))},
		"if with a body":      {Body: list(either(num(0), list(commit()), nil))},
		"if with an else":     {Body: list(either(num(0), nil, list(commit())))},
		"the last variable":   {Vars: three, Body: list(read(2), set(2, first(2)), put(2, get(2, num(0)), num(1)))},
		"an index is no cell": {Vars: three, Body: list(put(1, num(-1), get(2, num(1<<40))))},
		"rich":                rich(),
	}
}

func TestParts(t *testing.T) {
	for op, want := range map[int]int{
		api.ENum: 0, api.EVar: 0, api.EGet: 1, api.EAdd: 2, api.ESub: 2, api.EMul: 2, api.ELess: 2, api.ESame: 2,
		api.ENum - 1: -1, api.ESame + 1: -1, -1: -1,
	} {
		if got := code.Parts(op); got != want {
			t.Errorf("Parts(%d): %d, want %d", op, got, want)
		}
	}
	for _, op := range far {
		if got := code.Parts(op); got != -1 {
			t.Errorf("Parts(%d): %d, want -1", op, got)
		}
	}
}

func TestHas(t *testing.T) {
	type has struct{ e, f, v, body, other bool }
	for op, want := range map[int]has{
		api.SSet:        {e: true, v: true},
		api.SPut:        {e: true, f: true, v: true},
		api.SPrint:      {e: true},
		api.SRead:       {v: true},
		api.SWhile:      {e: true, body: true},
		api.SIf:         {e: true, body: true, other: true},
		api.SCommit:     {},
		api.SSet - 1:    {},
		api.SCommit + 1: {},
		-1:              {},
	} {
		var got has
		if got.e, got.f, got.v, got.body, got.other = code.Has(op); got != want {
			t.Errorf("Has(%d): %v, want %v", op, got, want)
		}
	}
	for _, op := range far {
		var got has
		if got.e, got.f, got.v, got.body, got.other = code.Has(op); got != (has{}) {
			t.Errorf("Has(%d): %v, want none", op, got)
		}
	}
}

func TestName(t *testing.T) {
	for n := 1; n <= api.MaxName; n++ {
		if s := letters[26-n:]; !code.Name(s) {
			t.Errorf("Name(%q): false, want true", s)
		}
	}
	for _, s := range wrongNames() {
		if code.Name(s) {
			t.Errorf("Name(%q): true, want false", s)
		}
	}
}

// wrongNames: empty, too long, and with bytes that are no letter.
func wrongNames() []string {
	return []string{
		"", letters[:api.MaxName+1], letters, strings.Repeat("a", 64), strings.Repeat("a", 256+1), strings.Repeat("a", 1<<16+1),
		"A", "Z", "aB", "Ba", "0", "a1", "1a", " ", " a", "a ", "a b", "\n", "a\n", "\t", "a\x00", "\x00", "a-b", "a_b", "`", "{", "a{", "`a",
		"\x80", "a\x80", "\xff", "\xe1", "é", "aé", "\xffa", "ａ", "а", string(rune(1<<8 + 'a')), "\u0261bc", "\x61\xcc\x81",
	}
}

// TestEachByteOfAName: by itself, ahead of letters, between and behind them.
func TestEachByteOfAName(t *testing.T) {
	for b := range 256 {
		one := string([]byte{byte(b)})
		want := strings.Contains(letters, one)
		for _, s := range []string{one, one + "bcdefgh", "bcd" + one + "efgh", "bcdefgh" + one} {
			if got := code.Name(s); got != want {
				t.Errorf("Name(%q): %v, want %v", s, got, want)
			}
		}
	}
}

func TestCell(t *testing.T) {
	for name, c := range map[string]struct {
		sizes, want []int // where each begins, and behind them how many all have
	}{
		"none":         {nil, []int{0}},
		"one":          {[]int{4}, []int{0, 4}},
		"one of one":   {[]int{1}, []int{0, 1}},
		"all of one":   {[]int{api.MaxCells}, []int{0, 48}},
		"several":      {[]int{3, 1, 44}, []int{0, 3, 4, 48}},
		"most":         {[]int{1, 2, 3, 4, 5, 6, 7, 8}, []int{0, 1, 3, 6, 10, 15, 21, 28, 36}},
		"too many":     {[]int{48, 48, 1}, []int{0, 48, 96, 97}},
		"noughts":      {[]int{0, 5, 0}, []int{0, 0, 5, 5}},
		"below nought": {[]int{5, -2, 4}, []int{0, 5, 3, 7}},
		"greatest":     {[]int{math.MaxInt}, []int{0, math.MaxInt}},
		"smallest":     {[]int{math.MinInt}, []int{0, math.MinInt}},
		"back again":   {[]int{math.MaxInt, math.MinInt, 1, 9}, []int{0, math.MaxInt, -1, 0, 9}},
	} {
		p := api.Program{Vars: sized(c.sizes...), Body: list(commit(), api.Stmt{Op: 99})}
		last := len(c.sizes)
		for v, want := range c.want {
			wantCell(t, name, p, v, want)
		}
		for _, v := range []int{-1, -last - 1, math.MinInt, math.MinInt + 1, -1 << 32} {
			wantCell(t, name, p, v, 0)
		}
		for _, v := range []int{last + 1, last + 2, 1 << 32, math.MaxInt - 1, math.MaxInt} {
			wantCell(t, name, p, v, c.want[last])
		}
		if got := code.Cells(p); got != c.want[last] {
			t.Errorf("%s: Cells: %d, want %d", name, got, c.want[last])
		}
	}
}

func wantCell(t *testing.T, name string, p api.Program, v, want int) {
	t.Helper()
	if got := code.Cell(p, v); got != want {
		t.Errorf("%s: Cell(%d): %d, want %d", name, v, got, want)
	}
}

// TestCellBeyondNumbers: where sums go beyond a number on the way, what comes back is exact.
func TestCellBeyondNumbers(t *testing.T) {
	p := api.Program{Vars: sized(math.MaxInt, math.MaxInt, math.MaxInt, 10, -math.MaxInt, -math.MaxInt, -math.MaxInt, -3)}
	wantCell(t, "all", p, 8, 7)
	wantCell(t, "but the last one", p, 7, 10)
	for v := range 10 {
		if a, b := code.Cell(p, v), code.Cell(p, v); a != b {
			t.Errorf("Cell(%d): %d and %d", v, a, b)
		}
	}
}

// TestCellOfManyVars: more than a program may have, and names that are none.
func TestCellOfManyVars(t *testing.T) {
	p := api.Program{Vars: slices.Repeat([]api.Var{{Name: "A 1", Size: 3}}, 1000)}
	for v := range 1000 {
		wantCell(t, "many", p, v, 3*v)
	}
	if got := code.Cells(p); got != 3000 {
		t.Errorf("Cells: %d, want 3000", got)
	}
}

func TestCellOfNilAndEmpty(t *testing.T) {
	for _, p := range []api.Program{{}, {Vars: []api.Var{}}, {Body: commits(1)}} {
		for _, v := range append([]int{-1, 0, 1}, far...) {
			wantCell(t, fmt.Sprint(p), p, v, 0)
		}
		if got := code.Cells(p); got != 0 {
			t.Errorf("Cells: %d, want 0", got)
		}
	}
}
