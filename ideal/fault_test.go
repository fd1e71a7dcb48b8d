package ideal_test

import (
	"runtime/debug"
	"slices"
	"testing"

	"overwinter/api"
	"overwinter/code"
	"overwinter/ideal"
)

func num(n int64) api.Expr                     { return api.Expr{Op: api.ENum, N: n} }
func first(v int) api.Expr                     { return api.Expr{Op: api.EVar, V: v} }
func get(v int, e api.Expr) api.Expr           { return api.Expr{Op: api.EGet, V: v, L: []api.Expr{e}} }
func two(op int, a, b api.Expr) api.Expr       { return api.Expr{Op: op, L: []api.Expr{a, b}} }
func set(v int, e api.Expr) api.Stmt           { return api.Stmt{Op: api.SSet, V: v, E: e} }
func put(v int, e, f api.Expr) api.Stmt        { return api.Stmt{Op: api.SPut, V: v, E: e, F: f} }
func tell(e api.Expr) api.Stmt                 { return api.Stmt{Op: api.SPrint, E: e} }
func read(v int) api.Stmt                      { return api.Stmt{Op: api.SRead, V: v} }
func while(e api.Expr, l ...api.Stmt) api.Stmt { return api.Stmt{Op: api.SWhile, E: e, Body: l} }
func commit() api.Stmt                         { return api.Stmt{Op: api.SCommit} }

func either(e api.Expr, body, other []api.Stmt) api.Stmt {
	return api.Stmt{Op: api.SIf, E: e, Body: body, Else: other}
}

func list(l ...api.Stmt) []api.Stmt     { return l }
func commits(n int) []api.Stmt          { return slices.Repeat(list(commit()), n) }
func one(name string, size int) api.Var { return api.Var{Name: name, Size: size} }

// abc: three variables, whose cells begin at 0, 2 and 3.
func abc() []api.Var { return []api.Var{one("a", 2), one("b", 1), one("c", 3)} }

// nest puts so many around one.
func nest[T any](deep int, x T, around func(T) T) T {
	for range deep {
		x = around(x)
	}
	return x
}

func gets(e api.Expr) api.Expr  { return get(0, e) }
func ifs(s api.Stmt) api.Stmt   { return either(num(1), list(s), nil) }
func elses(s api.Stmt) api.Stmt { return either(num(0), nil, list(s)) }

// wrong: what is no program, told by this code.
type wrong struct {
	name    string
	code    int
	p       api.Program
	endless bool // a copy of it, list by list, would not end
}

// wrongs: each code of code.Check, by variables, statements and expressions. Ahead of what is wrong something is printed, and behind it, too.
func wrongs() []wrong {
	var l []wrong
	add := func(c int, name string, p api.Program) { l = append(l, wrong{name: name, code: c, p: p}) }
	of := func(x ...api.Stmt) api.Program {
		return api.Program{Vars: abc(), Body: slices.Concat(list(set(1, num(5)), tell(first(1))), x, list(tell(num(6))))}
	}
	with := func(x ...api.Var) api.Program { return api.Program{Vars: x, Body: list(tell(num(6)))} }
	nine := slices.Repeat([]api.Var{one("a", 1)}, api.MaxVars+1)
	for i := range nine {
		nine[i].Name = string(rune('a' + i))
	}
	add(api.ErrMany, "variables", with(nine...))
	add(api.ErrMany, "statements", of(commits(api.MaxParts)...))
	add(api.ErrMany, "statements that are never done", of(while(num(0), commits(api.MaxParts)...)))
	add(api.ErrMany, "expressions", of(slices.Repeat(list(tell(num(1))), api.MaxParts/2)...))
	for _, name := range []string{"", "A", "a1", "a b", "abcdefghi", "é"} {
		add(api.ErrName, "name "+name, with(one("a", 1), one(name, 1)))
	}
	add(api.ErrTwice, "a name", with(one("a", 1), one("b", 1), one("a", 1)))
	for _, size := range []int{0, -1, api.MaxCells, api.MaxCells + 1, 1 << 32, least, most} {
		add(api.ErrRange, "size", with(one("b", 1), one("a", size)))
	}
	for _, v := range []int{-1, 3, 1 << 32, least, most} {
		for _, s := range list(read(v), set(v, num(1)), put(v, num(1), num(1)), tell(first(v)), tell(get(v, num(1))), while(num(0), read(v))) {
			add(api.ErrRange, "variable", of(s))
		}
	}
	add(api.ErrRange, "no variable at all", api.Program{Body: list(tell(num(5)), read(0))})
	for _, op := range []int{0, -1, api.ESame + 1, 1 << 32, least, most} {
		add(api.ErrKind, "statement", of(api.Stmt{Op: op}))
		add(api.ErrKind, "statement that is never done", of(either(num(1), nil, list(api.Stmt{Op: op}))))
		add(api.ErrKind, "expression", of(tell(api.Expr{Op: op})))
		add(api.ErrKind, "expression in others", of(put(0, num(1), two(api.EAdd, num(1), api.Expr{Op: op}))))
	}
	for _, s := range badForms() {
		add(api.ErrForm, "form", of(s))
		add(api.ErrForm, "form of what is never done", of(while(num(0), s)))
	}
	add(api.ErrDeep, "statements", of(nest(api.MaxDeep+1, commit(), ifs)))
	add(api.ErrDeep, "statements in Else", of(nest(api.MaxDeep+1, commit(), elses)))
	add(api.ErrDeep, "expressions", of(tell(nest(api.MaxDeep, num(0), gets))))
	for _, p := range selves() {
		l = append(l, wrong{name: "endless", code: api.ErrDeep, p: p, endless: true})
	}
	return l
}

// badForms: each has something that its kind has not, or not all that it has.
func badForms() []api.Stmt {
	return list(
		api.Stmt{Op: api.SCommit, V: 1},
		api.Stmt{Op: api.SCommit, E: num(1)},
		api.Stmt{Op: api.SCommit, Body: commits(1)},
		api.Stmt{Op: api.SRead, E: num(1)},
		api.Stmt{Op: api.SSet, E: num(1), F: num(1)},
		api.Stmt{Op: api.SPut, E: num(1), F: num(1), Body: commits(1)},
		api.Stmt{Op: api.SPrint, V: 1, E: num(1)},
		api.Stmt{Op: api.SWhile, E: num(0), Else: commits(1)},
		api.Stmt{Op: api.SIf, V: 2, E: num(1)},
		tell(api.Expr{Op: api.ENum, V: 1}),
		tell(api.Expr{Op: api.ENum, L: []api.Expr{num(1)}}),
		tell(api.Expr{Op: api.EVar, N: 1}),
		tell(api.Expr{Op: api.EGet}),
		tell(api.Expr{Op: api.EGet, L: []api.Expr{num(1), num(2)}}),
		tell(api.Expr{Op: api.EAdd}),
		tell(api.Expr{Op: api.EAdd, L: []api.Expr{num(1)}}),
		tell(api.Expr{Op: api.ESame, L: []api.Expr{num(1), num(2), num(3)}}),
		tell(api.Expr{Op: api.EMul, N: 1, L: []api.Expr{num(1), num(2)}}),
	)
}

// selves: lists that hold themselves.
func selves() []api.Program {
	e := []api.Expr{{Op: api.EGet}}
	e[0].L = e
	both := []api.Expr{{Op: api.EAdd}, {Op: api.EAdd}}
	both[0].L, both[1].L = both, both
	body := list(while(num(1)), commit())
	body[0].Body = body
	other := list(either(num(1), nil, nil), commit())
	other[0].Else = other
	return []api.Program{{Vars: abc(), Body: list(tell(e[0]))}, {Body: list(tell(both[0]))}, {Body: body}, {Body: other}}
}

// TestNoPrograms: code.Check's code is told, whatever the input and the fuel are, and nothing beside it.
func TestNoPrograms(t *testing.T) {
	told := map[int]int{}
	for _, bad := range wrongs() {
		for _, input := range [][]int64{nil, nums(1, 2), counted(api.MaxInput), counted(api.MaxInput + 1), counted(5000)} {
			for _, fuel := range []int{0, 1, 3, api.MaxFuel, api.MaxFuel + 1, -1, least, most} {
				wantCode(t, bad.name, bad.p, input, fuel, bad.code)
			}
		}
		told[bad.code]++
	}
	for _, c := range []int{api.ErrMany, api.ErrName, api.ErrTwice, api.ErrRange, api.ErrDeep, api.ErrKind, api.ErrForm} {
		if told[c] == 0 {
			t.Errorf("no program is told by code %d", c)
		}
	}
}

// TestVeryDeep: deeper than calls could stand in one another.
func TestVeryDeep(t *testing.T) {
	defer debug.SetMaxStack(debug.SetMaxStack(16 << 20))
	const deep = 300000
	wantCode(t, "expressions", api.Program{Vars: abc(), Body: list(tell(nest(deep, num(0), gets)))}, nil, 5, api.ErrDeep)
	wantCode(t, "statements", api.Program{Body: list(nest(deep, commit(), ifs))}, nil, 5, api.ErrDeep)
}

// TestWrongAtLast: with a code there is nothing, be it of a program that is right up to its last part.
func TestWrongAtLast(t *testing.T) {
	p := api.Program{Vars: abc(), Body: list(read(1), tell(first(1)), set(0, num(4)))}
	wantRun(t, "a program", p, nums(7), 9, 6, api.Result{Out: nums(7), Cells: nums(4, 0, 7, 0, 0, 0)})
	p.Body = append(p.Body, read(3))
	wantCode(t, "one more statement", p, nums(7), 9, api.ErrRange)
	p.Body[3] = read(2)
	wantRun(t, "another one", p, nums(7, 8), 9, 7, api.Result{Out: nums(7), Cells: nums(4, 0, 7, 8, 0, 0)})
}

// TestOneChange: a part of a program is of another kind, or of another variable: it has code.Check's code and nothing beside, or is what the machine says.
func TestOneChange(t *testing.T) {
	right, none := 0, 0
	try := func(p api.Program, input []int64) {
		c := code.Check(p)
		if c != 0 {
			wantCode(t, "a change", p, input, 200, c)
			none++
			return
		}
		wantMachine(t, "a change", p, input, 200)
		right++
	}
	for seed := range 60 {
		p, input := chosen(seed)
		for i := range p.Body {
			s := &p.Body[i]
			was := *s
			for _, by := range []int{1, -1, 3} {
				s.Op += by
				try(p, input)
				*s = was
				s.V += by
				try(p, input)
				*s = was
				s.E.Op += by
				try(p, input)
				*s = was
				s.E.V += by
				try(p, input)
				*s = was
			}
			s.E, s.F = s.F, s.E
			try(p, input)
			*s = was
			s.Body, s.Else = s.Else, s.Body
			try(p, input)
			*s = was
		}
	}
	if right < 200 || none < 200 {
		t.Errorf("%d programs and %d that are none: too few", right, none)
	}
}

// TestNothingAtAll: the zero program is one.
func TestNothingAtAll(t *testing.T) {
	got, n, c := ideal.Run(api.Program{}, nil, 1)
	if got.Code != 0 || len(got.Out) != 0 || len(got.Cells) != 0 || n != 1 || c != 0 {
		t.Errorf("%v, it took %d, code %d", got, n, c)
	}
}
