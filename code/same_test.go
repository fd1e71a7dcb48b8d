package code_test

import (
	"fmt"
	"math"
	"reflect"
	"runtime/debug"
	"slices"
	"testing"

	"overwinter/api"
	"overwinter/code"
)

// wantSame: whichever stands ahead.
func wantSame(t *testing.T, name string, a, b api.Program, want bool) {
	t.Helper()
	if x, y := code.Same(a, b), code.Same(b, a); x != want || y != want {
		t.Errorf("%s: Same: %v and, the other way, %v, want %v", name, x, y, want)
	}
}

// anyPrograms: programs, and what is none.
func anyPrograms() map[string]api.Program {
	m := programs()
	m["no variables"] = api.Program{Vars: []api.Var{{}, {Name: "A 1", Size: math.MinInt}, {Name: "\xff", Size: math.MaxInt}}}
	m["too many variables"] = api.Program{Vars: vars(20)}
	m["one name"] = api.Program{Vars: slices.Repeat(vars(1), 3)}
	m["no statement"] = api.Program{Body: make([]api.Stmt, 2)}
	e := api.Expr{Op: math.MinInt, V: math.MaxInt, N: math.MinInt64, L: []api.Expr{{}, num(1), {L: make([]api.Expr, 2)}}}
	m["all that is none"] = api.Program{Body: list(api.Stmt{Op: math.MaxInt, V: math.MinInt, E: e, F: e, Body: list(tell(e)), Else: list(commit(), api.Stmt{F: e})})}
	m["too deep"] = api.Program{Body: list(nest(40, tell(nest(40, num(1), gets)), whiles))}
	m["too many"] = api.Program{Body: append(commits(200), tell(num(5)))}
	return m
}

func TestSameOfCopies(t *testing.T) {
	for name, p := range anyPrograms() {
		wantSame(t, name+", itself", p, p, true)
		wantSame(t, name+", a copy", p, withNils(p), true)
		wantSame(t, name+", a shallow copy", p, api.Program{Vars: slices.Clone(p.Vars), Body: slices.Clone(p.Body)}, true)
	}
}

func TestSameOfOthers(t *testing.T) {
	all := anyPrograms()
	for a, p := range all {
		for b, q := range all {
			wantSame(t, a+" and "+b, p, withNils(q), a == b)
		}
	}
}

// changes: each is one change of a program, at one of its places.
type changes struct {
	names []string
	do    []func()
}

func (c *changes) add(name string, do func()) {
	c.names = append(c.names, name)
	c.do = append(c.do, do)
}

func addNumber[T int | int64](c *changes, name string, n *T) {
	for _, by := range []T{1, -1, 1 << 32, math.MinInt64} {
		c.add(fmt.Sprint(name, " ", *n, " and ", by), func() { *n += by })
	}
}

func addList[T any](c *changes, name string, l *[]T, more ...T) {
	for _, x := range more {
		c.add(name+", one more", func() { *l = append(*l, x) })
		c.add(name+", one more ahead", func() { *l = slices.Concat([]T{x}, *l) })
	}
	if n := len(*l); n > 0 {
		c.add(name+", without the last one", func() { *l = (*l)[:n-1] })
		c.add(name+", none", func() { *l = nil })
		c.add(name+", the last one twice", func() { *l = append(*l, (*l)[n-1]) })
	}
}

func addText(c *changes, name string, s *string) {
	c.add(name+", longer", func() { *s += "a" })
	c.add(name+", longer by a nought", func() { *s += "\x00" })
	if *s != "" {
		c.add(name+", shorter", func() { *s = (*s)[1:] })
		c.add(name+", another first byte", func() { *s = string((*s)[0]^1) + (*s)[1:] })
		c.add(name+", a capital", func() { *s = (*s)[:len(*s)-1] + string([]byte{(*s)[len(*s)-1] ^ 32}) })
	}
}

func addExpr(c *changes, name string, e *api.Expr) {
	addNumber(c, name+".Op", &e.Op)
	addNumber(c, name+".V", &e.V)
	addNumber(c, name+".N", &e.N)
	addList(c, name+".L", &e.L, api.Expr{}, num(1))
	for i := range e.L {
		addExpr(c, fmt.Sprint(name, ".L", i), &e.L[i])
	}
}

func addBody(c *changes, name string, l *[]api.Stmt) {
	addList(c, name, l, api.Stmt{}, commit())
	for i := range *l {
		s, name := &(*l)[i], fmt.Sprint(name, i)
		addNumber(c, name+".Op", &s.Op)
		addNumber(c, name+".V", &s.V)
		addExpr(c, name+".E", &s.E)
		addExpr(c, name+".F", &s.F)
		addBody(c, name+".Body", &s.Body)
		addBody(c, name+".Else", &s.Else)
	}
}

// changesOf: at each place that a program has.
func changesOf(p *api.Program) *changes {
	c := &changes{}
	addList(c, "Vars", &p.Vars, api.Var{}, api.Var{Name: "a", Size: 1})
	for i := range p.Vars {
		addText(c, fmt.Sprint("name ", i), &p.Vars[i].Name)
		addNumber(c, fmt.Sprint("size ", i), &p.Vars[i].Size)
	}
	addBody(c, "Body", &p.Body)
	return c
}

// TestSameOfOneChange: a program, and one that differs from it in one place.
func TestSameOfOneChange(t *testing.T) {
	for name, p := range anyPrograms() {
		if name == "too deep" || name == "too many" {
			continue // their places are those of others, but so many that the test would take long
		}
		for i, what := range changesOf(&p).names {
			q := withNils(p)
			changesOf(&q).do[i]()
			wantSame(t, name+", "+what, p, q, false)
			wantSame(t, name+", "+what+", a copy", q, withEmpties(q), true)
		}
	}
}

// TestSameFarBehind: a change in the last place of much, and deep in it.
func TestSameFarBehind(t *testing.T) {
	of := func(n int64) map[string]api.Program {
		return map[string]api.Program{
			"deep": {Body: list(nest(40, tell(nest(40, num(n), gets)), whiles))},
			"many": {Body: append(commits(200), tell(num(n)))},
			"wide": {Body: list(tell(api.Expr{L: append(make([]api.Expr, 200), num(n))}))},
		}
	}
	for name, p := range of(1) {
		wantSame(t, name, p, of(1)[name], true)
		wantSame(t, name, p, of(2)[name], false)
	}
}

func TestSameHasAnOrder(t *testing.T) {
	a, b := tell(num(1)), read(0)
	x, y := num(1), num(2)
	for name, c := range map[string][2]api.Program{
		"variables":   {{Vars: []api.Var{{Name: "a", Size: 1}, {Name: "b", Size: 1}}}, {Vars: []api.Var{{Name: "b", Size: 1}, {Name: "a", Size: 1}}}},
		"names":       {{Vars: []api.Var{{Name: "a", Size: 1}, {Name: "b", Size: 2}}}, {Vars: []api.Var{{Name: "b", Size: 1}, {Name: "a", Size: 2}}}},
		"statements":  {{Body: list(a, b)}, {Body: list(b, a)}},
		"in a body":   {{Body: list(while(x, a, b))}, {Body: list(while(x, b, a))}},
		"body, else":  {{Body: list(either(x, list(a), list(b)))}, {Body: list(either(x, list(b), list(a)))}},
		"body, other": {{Body: list(either(x, list(a), nil))}, {Body: list(either(x, nil, list(a)))}},
		"E and F":     {{Body: list(put(0, x, y))}, {Body: list(put(0, y, x))}},
		"expressions": {{Body: list(tell(two(api.EAdd, x, y)))}, {Body: list(tell(two(api.EAdd, y, x)))}},
		"in, behind":  {{Body: list(while(x, a), b)}, {Body: list(while(x, a, b))}},
		"which E":     {{Body: list(tell(two(api.EAdd, get(0, x), get(0, y))))}, {Body: list(tell(two(api.EAdd, get(0, y), get(0, x))))}},
		"which body":  {{Body: list(while(x, a), while(x, b))}, {Body: list(while(x, b), while(x, a))}},
	} {
		wantSame(t, name, c[0], c[1], false)
		wantSame(t, name, c[1], withNils(c[1]), true)
	}
}

// TestNilIsEmptyInSame: in all places at once, and in each place by itself.
func TestNilIsEmptyInSame(t *testing.T) {
	for name, p := range anyPrograms() {
		wantSame(t, name, withNils(p), withEmpties(p), true)
		wantSame(t, name, withEmpties(p), withEmpties(p), true)
	}
	for name, p := range programs() {
		n := 0
		count := func(*int) bool { n++; return false }
		someEmpty(p, &n, count)
		for place := range n {
			at := 0
			q := someEmpty(p, &at, func(at *int) bool { *at++; return *at-1 == place })
			wantSame(t, fmt.Sprint(name, ", place ", place), withNils(p), q, true)
		}
	}
}

// someEmpty: a copy in which those lists without elements are empty that are chosen; others are nil.
func someEmpty(p api.Program, at *int, chosen func(*int) bool) api.Program {
	return copier{choose[api.Var](at, chosen), choose[api.Stmt](at, chosen), choose[api.Expr](at, chosen)}.program(p)
}

func choose[T any](at *int, chosen func(*int) bool) func([]T) []T {
	return func(l []T) []T {
		if len(l) == 0 && chosen(at) {
			return empties(l)
		}
		return nils(l)
	}
}

// TestSameLeavesAll: nothing is changed, and what lies behind a list's length is as if it were not there.
func TestSameLeavesAll(t *testing.T) {
	for name, p := range anyPrograms() {
		a, b := withMore(p, 1), withMore(p, 2)
		x, y := whole(a), whole(b)
		wantSame(t, name+", other things behind", a, b, true)
		wantSame(t, name+", nothing behind", a, p, true)
		wantSame(t, name+", one more", a, api.Program{Vars: b.Vars, Body: slices.Concat(b.Body, commits(1))}, false)
		if !reflect.DeepEqual(whole(a), x) || !reflect.DeepEqual(whole(b), y) {
			t.Errorf("%s: a program was changed", name)
		}
	}
	l := list(commit(), read(0), commit())
	wantSame(t, "lists of one memory", api.Program{Body: l[:1]}, api.Program{Body: l[:2]}, false)
	wantSame(t, "lists of one memory, alike", api.Program{Body: l[:1]}, api.Program{Body: l[2:]}, true)
	wantSame(t, "lists of one memory, not alike", api.Program{Body: l[:1]}, api.Program{Body: l[1:2]}, false)
}

// TestSameOfListsThatShare: the same list in several places is held against each list that stands there.
func TestSameOfListsThatShare(t *testing.T) {
	l := []api.Expr{num(1), num(2)}
	of := func(a, b []api.Expr) api.Program {
		return api.Program{Body: list(tell(api.Expr{Op: api.EAdd, L: a}), tell(api.Expr{Op: api.EAdd, L: b}))}
	}
	wantSame(t, "twice", of(l, l), of(slices.Clone(l), slices.Clone(l)), true)
	wantSame(t, "the second differs", of(l, l), of(slices.Clone(l), []api.Expr{num(1), num(3)}), false)
	wantSame(t, "the first differs", of(l, l), of([]api.Expr{num(3), num(2)}, slices.Clone(l)), false)
	wantSame(t, "of another length", of(l, l[:1]), of(l, l), false)
	wantSame(t, "parts of it", of(l[:1], l), of(slices.Clone(l[:1]), []api.Expr{num(1), num(3)}), false)
	wantSame(t, "parts of it, and itself", of(l[:1], l), of(l[:1], []api.Expr{num(1), num(3)}), false)
	m := []api.Expr{num(1), num(3)}
	wantSame(t, "beginnings alike", of(l[:1], l), of(m[:1], m), false)
	wantSame(t, "the other way", of(l, m), of(m, l), false)
}

// TestSameOfManyPaths: lists that stand twice in each other have more paths than can be gone, but few lists.
func TestSameOfManyPaths(t *testing.T) {
	twice := func(n int64) api.Program {
		e := num(n)
		for range 200 {
			l := []api.Expr{e, e}
			e = api.Expr{Op: api.EAdd, L: l}
		}
		s := tell(e)
		for range 200 {
			l := list(s)
			s = either(num(1), l, l)
		}
		return api.Program{Body: list(s)}
	}
	wantSame(t, "alike", twice(1), twice(1), true)
	wantSame(t, "not alike", twice(1), twice(2), false)
	wantCheck(t, "many paths", twice(1), api.ErrDeep)
}

// TestSameOfListsThatHoldThemselves: it ends.
func TestSameOfListsThatHoldThemselves(t *testing.T) {
	of := func(n int64) map[string]api.Program {
		return map[string]api.Program{
			"get":   {Body: list(tell(selfGet(int(n))[0]))},
			"add":   {Body: list(tell(selfAdd(n)[0]))},
			"while": {Body: selfWhile(n)},
			"else":  {Body: selfElse(n)},
		}
	}
	for name, p := range of(1) {
		wantSame(t, name+", itself", p, p, true)
		wantSame(t, name+", one like it", p, of(1)[name], true)
		wantSame(t, name+", one not like it", p, of(2)[name], false)
		wantSame(t, name+", one that ends", p, rich(), false)
	}
}

// TestSameOfVeryDeep: deeper than calls could stand in one another.
func TestSameOfVeryDeep(t *testing.T) {
	defer debug.SetMaxStack(debug.SetMaxStack(16 << 20))
	const deep = 300000
	exprs := func(n int64) api.Program {
		return api.Program{Vars: vars(1), Body: list(tell(nest(deep, num(n), gets)))}
	}
	stmts := func(n int64) api.Program { return api.Program{Body: list(nest(deep, tell(num(n)), whiles))} }
	wantSame(t, "expressions", exprs(1), exprs(1), true)
	wantSame(t, "expressions, not alike", exprs(1), exprs(2), false)
	wantSame(t, "statements", stmts(1), stmts(1), true)
	wantSame(t, "statements, not alike", stmts(1), stmts(2), false)
	wantCheck(t, "expressions", exprs(1), api.ErrDeep)
	wantCheck(t, "statements", stmts(1), api.ErrDeep)
}
