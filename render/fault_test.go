package render_test

import (
	"runtime/debug"
	"slices"
	"strings"
	"testing"

	"overwinter/api"
	"overwinter/render"
)

// wrong: what is no program, told by this code.
type wrong struct {
	name    string
	code    int
	p       api.Program
	endless bool // a copy of it, list by list, would not end
}

// wrongs: each code of code.Check, by variables, statements and expressions.
func wrongs() []wrong {
	var l []wrong
	add := func(code int, name string, p api.Program) {
		l = append(l, wrong{name: name, code: code, p: p})
	}
	of := func(x ...api.Stmt) api.Program { return api.Program{Vars: abc(), Body: x} }
	nine := slices.Repeat(vars(one("a", 1)), 9)
	for i := range nine {
		nine[i].Name = string(rune('a' + i))
	}
	add(api.ErrMany, "nine variables", api.Program{Vars: nine})
	add(api.ErrMany, "too many commits", of(commits(api.MaxParts+1)...))
	add(api.ErrMany, "too many in a while", of(while(num(1), commits(api.MaxParts-1)...)))
	add(api.ErrMany, "too many prints", of(slices.Repeat(list(tell(num(1))), api.MaxParts/2+1)...))
	for _, name := range []string{"", "A", "a1", "a b", "abcdefghi", "(", "\n", "a\x00", "é"} {
		add(api.ErrName, "name "+name, api.Program{Vars: vars(one("a", 1), one(name, 1)), Body: list(read(1))})
	}
	add(api.ErrTwice, "one name twice", api.Program{Vars: vars(one("a", 1), one("b", 1), one("a", 1))})
	for _, size := range []int{0, -1, api.MaxCells, api.MaxCells + 1, 1 << 32, -1 << 63, 1<<63 - 1} {
		add(api.ErrRange, "size", api.Program{Vars: vars(one("b", 1), one("a", size)), Body: list(commit())})
	}
	for _, v := range []int{-1, 3, 1 << 32, -1 << 63, 1<<63 - 1} {
		for _, s := range list(read(v), set(v, num(1)), put(v, num(1), num(1)), tell(first(v)), tell(get(v, num(1))), while(num(1), read(v))) {
			add(api.ErrRange, "no such variable", of(s))
			add(api.ErrRange, "no such variable behind others", of(commit(), read(0), s))
		}
	}
	add(api.ErrRange, "no variable at all", api.Program{Body: list(read(0))})
	for _, op := range []int{0, -1, api.ESame + 1, 1 << 32, 1<<32 + 1, -1 << 63, 1<<63 - 1} {
		add(api.ErrKind, "statement", of(api.Stmt{Op: op}))
		add(api.ErrKind, "statement in others", of(read(0), either(num(1), nil, list(commit(), api.Stmt{Op: op}))))
		add(api.ErrKind, "expression", of(tell(api.Expr{Op: op})))
		add(api.ErrKind, "expression in others", of(put(0, num(1), two(api.EAdd, num(1), api.Expr{Op: op}))))
	}
	add(api.ErrKind, "statement just behind the last kind", of(api.Stmt{Op: api.SCommit + 1}))
	for _, s := range badForms() {
		add(api.ErrForm, "form", of(s))
		add(api.ErrForm, "form in a while", of(while(num(1), commit(), s)))
	}
	add(api.ErrDeep, "statement", of(nest(api.MaxDeep+1, commit(), whiles)))
	add(api.ErrDeep, "expression", of(tell(nest(api.MaxDeep, num(1), gets))))
	for _, p := range append(selves(), manyPaths()) {
		l = append(l, wrong{name: "endless", code: api.ErrDeep, p: p, endless: true})
	}
	return l
}

// badForms: each has something that its kind has not.
func badForms() []api.Stmt {
	return list(
		api.Stmt{Op: api.SCommit, V: 1},
		api.Stmt{Op: api.SCommit, E: num(1)},
		api.Stmt{Op: api.SCommit, F: num(1)},
		api.Stmt{Op: api.SCommit, Body: commits(1)},
		api.Stmt{Op: api.SCommit, Else: commits(1)},
		api.Stmt{Op: api.SRead, E: num(1)},
		api.Stmt{Op: api.SSet, E: num(1), F: num(1)},
		api.Stmt{Op: api.SPut, E: num(1), F: num(1), Body: commits(1)},
		api.Stmt{Op: api.SPrint, V: 1, E: num(1)},
		api.Stmt{Op: api.SWhile, E: num(1), Else: commits(1)},
		api.Stmt{Op: api.SIf, V: 2, E: num(1)},
		tell(api.Expr{Op: api.ENum, V: 1}),
		tell(api.Expr{Op: api.ENum, L: []api.Expr{num(1)}}),
		tell(api.Expr{Op: api.EVar, N: 1}),
		tell(api.Expr{Op: api.EVar, L: []api.Expr{num(1)}}),
		tell(api.Expr{Op: api.EGet}),
		tell(api.Expr{Op: api.EGet, L: []api.Expr{num(1), num(2)}}),
		tell(api.Expr{Op: api.EAdd, L: []api.Expr{num(1)}}),
		tell(api.Expr{Op: api.ESame, L: []api.Expr{num(1), num(2), num(3)}}),
		tell(api.Expr{Op: api.EMul, N: 1, L: []api.Expr{num(1), num(2)}}),
		tell(api.Expr{Op: api.ELess, V: 1, L: []api.Expr{num(1), num(2)}}),
	)
}

// manyPaths: lists that stand twice in each other: few lists, but a text that never ended.
func manyPaths() api.Program {
	s := commit()
	for range 200 {
		l := list(s)
		s = either(num(1), l, l)
	}
	return api.Program{Body: list(s)}
}

// selves: lists that hold themselves.
func selves() []api.Program {
	e := []api.Expr{{Op: api.EGet}}
	e[0].L = e
	both := []api.Expr{{Op: api.EAdd}, {Op: api.EAdd}}
	both[0].L, both[1].L = both, both
	body := list(while(num(1)), commit())
	body[0].Body = body
	other := list(either(num(1), nil, nil), commit())
	other[0].Else = other
	return []api.Program{{Vars: abc(), Body: list(tell(e[0]))}, {Body: list(tell(both[0]))}, {Body: body}, {Body: other}}
}

func TestNoPrograms(t *testing.T) {
	told := map[int]int{}
	for _, bad := range wrongs() {
		wantFault(t, bad.name, bad.p, bad.code)
		told[bad.code]++
	}
	for _, code := range []int{api.ErrMany, api.ErrName, api.ErrTwice, api.ErrRange, api.ErrDeep, api.ErrKind, api.ErrForm} {
		if told[code] == 0 {
			t.Errorf("no program is told by code %d", code)
		}
	}
}

// TestWrongAndTooLong: what code.Check finds is told, not that the text would be too long.
func TestWrongAndTooLong(t *testing.T) {
	many := commits(api.MaxText)
	long := strings.Repeat("a", 2*api.MaxText)
	for name, c := range map[string]struct {
		p    api.Program
		want int
	}{
		"a long name":                    {api.Program{Vars: vars(one(long, 1))}, api.ErrName},
		"a long name behind another one": {api.Program{Vars: vars(one("a", 1), one(long, 1)), Body: many}, api.ErrName},
		"a name twice":                   {api.Program{Vars: vars(one("a", 1), one("a", 1)), Body: many}, api.ErrTwice},
		"a size":                         {api.Program{Vars: vars(one("a", 0)), Body: many}, api.ErrRange},
		"a kind":                         {api.Program{Body: append(list(api.Stmt{}), many...)}, api.ErrKind},
		"a form":                         {api.Program{Body: append(list(api.Stmt{Op: api.SCommit, V: 1}), many...)}, api.ErrForm},
		"a form with much in it":         {api.Program{Body: list(api.Stmt{Op: api.SCommit, Body: many})}, api.ErrForm},
		"a kind with much in it":         {api.Program{Body: list(api.Stmt{Op: 99, Body: many})}, api.ErrKind},
		"no such variable":               {api.Program{Body: append(list(read(0)), many...)}, api.ErrRange},
		"deep":                           {api.Program{Body: append(list(nest(13, commit(), whiles)), many...)}, api.ErrDeep},
		"deep behind some":               {api.Program{Body: append(append(commits(100), nest(13, commit(), whiles)), many...)}, api.ErrDeep},
		"many":                           {api.Program{Body: many}, api.ErrMany},
		"many variables":                 {api.Program{Vars: slices.Repeat(vars(one(long, 0)), 9), Body: many}, api.ErrMany},
		"many, then a kind":              {api.Program{Body: append(many[:len(many):len(many)], api.Stmt{})}, api.ErrMany},
	} {
		wantFault(t, name, c.p, c.want)
	}
}

// TestVeryDeep: deeper than calls could stand in one another.
func TestVeryDeep(t *testing.T) {
	defer debug.SetMaxStack(debug.SetMaxStack(16 << 20))
	const deep = 300000
	wantFault(t, "expressions", api.Program{Vars: abc(), Body: list(tell(nest(deep, num(1), gets)))}, api.ErrDeep)
	wantFault(t, "statements", api.Program{Body: list(nest(deep, commit(), whiles))}, api.ErrDeep)
}

// TestFirstIsTold: what stands ahead is told, whatever is wrong behind it.
func TestFirstIsTold(t *testing.T) {
	for _, ahead := range wrongs() {
		for _, behind := range wrongs() {
			if len(ahead.p.Vars) == 3 && ahead.code != api.ErrMany && ahead.code != api.ErrTwice {
				p := api.Program{Vars: ahead.p.Vars, Body: slices.Concat(ahead.p.Body, behind.p.Body)}
				wantFault(t, ahead.name+", "+behind.name, p, ahead.code)
			}
		}
	}
}

// TestOtherFault: with a fault there is no text, be it of a program that has one up to its last part.
func TestOtherFault(t *testing.T) {
	p := rich()
	p.Body = append(p.Body, read(3))
	wantFault(t, "the last statement", p, api.ErrRange)
	p.Body[len(p.Body)-1] = read(2)
	if s, f := render.Print(p); f.Code != 0 || !strings.HasSuffix(s, "\n(commit)\n(read zzzzzzzz)\n") {
		t.Errorf("mended: %s %v", short(s), f)
	}
}
