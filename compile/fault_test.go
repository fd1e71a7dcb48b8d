package compile_test

import (
	"runtime/debug"
	"slices"
	"testing"

	"overwinter/api"
	"overwinter/code"
	"overwinter/compile"
)

// wrong: what is no program, told by this code.
type wrong struct {
	name    string
	code    int
	p       api.Program
	endless bool // a copy of it, list by list, would not end
}

// wrongs: each code of code.Check, by variables, statements and expressions.
func wrongs() []wrong {
	var l []wrong
	add := func(code int, name string, p api.Program) {
		l = append(l, wrong{name: name, code: code, p: p})
	}
	of := func(x ...api.Stmt) api.Program { return api.Program{Vars: abc(), Body: x} }
	add(api.ErrMany, "nine variables", api.Program{Vars: sized(1, 1, 1, 1, 1, 1, 1, 1, 1)})
	add(api.ErrMany, "too many commits", of(commits(api.MaxParts+1)...))
	add(api.ErrMany, "too many in a while", of(while(num(1), commits(api.MaxParts-1)...)))
	add(api.ErrMany, "too many prints", of(slices.Repeat(list(tell(num(1))), api.MaxParts/2+1)...))
	for _, name := range []string{"", "A", "a1", "a b", "abcdefghi", "(", "\n", "a\x00", "é"} {
		add(api.ErrName, "name "+name, api.Program{Vars: vars(one("a", 1), one(name, 1)), Body: list(read(1))})
	}
	add(api.ErrTwice, "one name twice", api.Program{Vars: vars(one("a", 1), one("b", 1), one("a", 1))})
	for _, size := range []int{0, -1, api.MaxCells, api.MaxCells + 1, 1 << 32, -1 << 63, 1<<63 - 1} {
		add(api.ErrRange, "size", api.Program{Vars: vars(one("b", 1), one("a", size)), Body: list(commit())})
	}
	for _, v := range []int{-1, 3, 1 << 32, -1 << 63, 1<<63 - 1} {
		for _, s := range list(read(v), set(v, num(1)), put(v, num(1), num(1)), tell(first(v)), tell(get(v, num(1))), while(num(1), read(v))) {
			add(api.ErrRange, "no such variable", of(s))
			add(api.ErrRange, "no such variable behind others", of(commit(), read(0), s))
		}
	}
	add(api.ErrRange, "no variable at all", api.Program{Body: list(read(0))})
	for _, op := range []int{0, -1, api.ESame + 1, 1 << 32, 1<<32 + 1, -1 << 63, 1<<63 - 1} {
		add(api.ErrKind, "statement", of(api.Stmt{Op: op}))
		add(api.ErrKind, "statement in others", of(read(0), either(num(1), nil, list(commit(), api.Stmt{Op: op}))))
		add(api.ErrKind, "expression", of(tell(api.Expr{Op: op})))
		add(api.ErrKind, "expression in others", of(put(0, num(1), two(api.EAdd, num(1), api.Expr{Op: op}))))
	}
	add(api.ErrKind, "statement just behind the last kind", of(api.Stmt{Op: api.SCommit + 1}))
	for _, s := range badForms() {
		add(api.ErrForm, "form", of(s))
		add(api.ErrForm, "form in a while", of(while(num(1), commit(), s)))
	}
	add(api.ErrDeep, "statement", of(nest(api.MaxDeep+1, commit(), whiles)))
	add(api.ErrDeep, "expression", of(tell(nest(api.MaxDeep, num(1), gets))))
	for _, p := range append(selves(), manyPaths()) {
		l = append(l, wrong{name: "endless", code: api.ErrDeep, p: p, endless: true})
	}
	return l
}

// badForms: each has something that its kind has not.
func badForms() []api.Stmt {
	return list(
		api.Stmt{Op: api.SCommit, V: 1},
		api.Stmt{Op: api.SCommit, E: num(1)},
		api.Stmt{Op: api.SCommit, F: num(1)},
		api.Stmt{Op: api.SCommit, Body: commits(1)},
		api.Stmt{Op: api.SCommit, Else: commits(1)},
		api.Stmt{Op: api.SRead, E: num(1)},
		api.Stmt{Op: api.SSet, E: num(1), F: num(1)},
		api.Stmt{Op: api.SPut, E: num(1), F: num(1), Body: commits(1)},
		api.Stmt{Op: api.SPrint, V: 1, E: num(1)},
		api.Stmt{Op: api.SWhile, E: num(1), Else: commits(1)},
		api.Stmt{Op: api.SIf, V: 2, E: num(1)},
		tell(api.Expr{Op: api.ENum, V: 1}),
		tell(api.Expr{Op: api.ENum, L: []api.Expr{num(1)}}),
		tell(api.Expr{Op: api.EVar, N: 1}),
		tell(api.Expr{Op: api.EVar, L: []api.Expr{num(1)}}),
		tell(api.Expr{Op: api.EGet}),
		tell(api.Expr{Op: api.EGet, L: []api.Expr{num(1), num(2)}}),
		tell(api.Expr{Op: api.EAdd, L: []api.Expr{num(1)}}),
		tell(api.Expr{Op: api.ESame, L: []api.Expr{num(1), num(2), num(3)}}),
		tell(api.Expr{Op: api.EMul, N: 1, L: []api.Expr{num(1), num(2)}}),
		tell(api.Expr{Op: api.ELess, V: 1, L: []api.Expr{num(1), num(2)}}),
	)
}

// manyPaths: lists that stand twice in each other: few lists, but instructions that never ended.
func manyPaths() api.Program {
	s := commit()
	for range 200 {
		l := list(s)
		s = either(num(1), l, l)
	}
	return api.Program{Body: list(s)}
}

// selves: lists that hold themselves.
func selves() []api.Program {
	e := []api.Expr{{Op: api.EGet}}
	e[0].L = e
	both := []api.Expr{{Op: api.EAdd}, {Op: api.EAdd}}
	both[0].L, both[1].L = both, both
	body := list(while(num(1)), commit())
	body[0].Body = body
	other := list(either(num(1), nil, nil), commit())
	other[0].Else = other
	return []api.Program{{Vars: abc(), Body: list(tell(e[0]))}, {Body: list(tell(both[0]))}, {Body: body}, {Body: other}}
}

func TestNoPrograms(t *testing.T) {
	told := map[int]int{}
	for _, bad := range wrongs() {
		wantCode(t, bad.name, bad.p, bad.code)
		told[bad.code]++
	}
	for _, code := range []int{api.ErrMany, api.ErrName, api.ErrTwice, api.ErrRange, api.ErrDeep, api.ErrKind, api.ErrForm} {
		if told[code] == 0 {
			t.Errorf("no program is told by code %d", code)
		}
	}
}

// TestVeryDeep: deeper than calls could stand in one another.
func TestVeryDeep(t *testing.T) {
	defer debug.SetMaxStack(debug.SetMaxStack(16 << 20))
	const deep = 300000
	wantCode(t, "expressions", api.Program{Vars: abc(), Body: list(tell(nest(deep, num(1), gets)))}, api.ErrDeep)
	wantCode(t, "statements", api.Program{Body: list(nest(deep, commit(), whiles))}, api.ErrDeep)
}

// TestFirstIsTold: what stands ahead is told, whatever is wrong behind it.
func TestFirstIsTold(t *testing.T) {
	for _, ahead := range wrongs() {
		for _, behind := range wrongs() {
			if len(ahead.p.Vars) == 3 && ahead.code != api.ErrMany && ahead.code != api.ErrTwice {
				p := api.Program{Vars: ahead.p.Vars, Body: slices.Concat(ahead.p.Body, behind.p.Body)}
				wantCode(t, ahead.name+", "+behind.name, p, ahead.code)
			}
		}
	}
}

// TestWrongAtLast: with a code there is no instruction, be it of a program that is right up to its last part.
func TestWrongAtLast(t *testing.T) {
	p := rich()
	ahead, _ := compile.Make(p)
	p.Body = append(p.Body, read(3))
	wantCode(t, "the last statement", p, api.ErrRange)
	p.Body[len(p.Body)-1] = read(2)
	wantList(t, p, append(ahead[:len(ahead)-1], written("read 4; halt")...))
}

// changes: each makes something of a program another thing.
func changes(p *api.Program) []func() {
	var out []func()
	add := func(do func()) { out = append(out, do) }
	for i := range p.Vars {
		x := &p.Vars[i]
		add(func() { x.Size++ })
		add(func() { x.Size-- })
		add(func() { x.Size += api.MaxCells })
		add(func() { x.Name += "x" })
		add(func() { x.Name = p.Vars[0].Name })
	}
	add(func() { p.Vars = nil })
	add(func() { p.Vars = append(p.Vars, one("new", 1)) })
	add(func() { slices.Reverse(p.Vars) })
	changeBody(&p.Body, add)
	return out
}

func changeBody(l *[]api.Stmt, add func(func())) {
	add(func() { *l = append(*l, commit()) })
	add(func() { *l = append(list(commit()), *l...) })
	add(func() { *l = (*l)[:len(*l)/2] })
	add(func() { slices.Reverse(*l) })
	for i := range *l {
		s := &(*l)[i]
		add(func() { s.Op++ })
		add(func() { s.Op-- })
		add(func() { s.V++ })
		add(func() { s.V-- })
		add(func() { s.E, s.F = s.F, s.E })
		add(func() { s.Body, s.Else = s.Else, s.Body })
		add(func() { *l = slices.Insert(*l, i, *s) })
		add(func() { *l = slices.Concat((*l)[:i], s.Body, (*l)[i+1:]) })
		changeExpr(&s.E, add)
		changeExpr(&s.F, add)
		changeBody(&s.Body, add)
		changeBody(&s.Else, add)
	}
}

func changeExpr(e *api.Expr, add func(func())) {
	for _, by := range []int{1, -1, 3} {
		add(func() { e.Op += by })
		add(func() { e.V += by })
		add(func() { e.N += int64(by) })
	}
	add(func() { slices.Reverse(e.L) })
	for i := range e.L {
		add(func() { *e = e.L[i] })
		changeExpr(&e.L[i], add)
	}
}

// TestOneChange: what is still a program has the model's instructions, what is none has code.Check's code and no instruction.
func TestOneChange(t *testing.T) {
	right, none := 0, 0
	all := []api.Program{rich(), {Vars: abc(), Body: list(read(1), put(1, num(1), first(2)))}}
	for i := range 30 {
		all = append(all, newChance(i, 60).program())
	}
	for _, p := range all {
		for j := range changes(&p) {
			q := withNils(p)
			changes(&q)[j]()
			if c := code.Check(q); c != 0 {
				wantCode(t, "a change", q, c)
				none++
				continue
			}
			wantModel(t, q)
			right++
		}
	}
	if right < 500 || none < 500 {
		t.Errorf("%d programs and %d that are none: too few", right, none)
	}
}
