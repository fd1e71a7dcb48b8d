package render_test

import (
	"fmt"
	"math"
	"slices"
	"strings"
	"testing"

	"overwinter/api"
	"overwinter/render"
)

func num(n int64) api.Expr                     { return api.Expr{Op: api.ENum, N: n} }
func first(v int) api.Expr                     { return api.Expr{Op: api.EVar, V: v} }
func get(v int, e api.Expr) api.Expr           { return api.Expr{Op: api.EGet, V: v, L: []api.Expr{e}} }
func two(op int, a, b api.Expr) api.Expr       { return api.Expr{Op: op, L: []api.Expr{a, b}} }
func set(v int, e api.Expr) api.Stmt           { return api.Stmt{Op: api.SSet, V: v, E: e} }
func put(v int, e, f api.Expr) api.Stmt        { return api.Stmt{Op: api.SPut, V: v, E: e, F: f} }
func tell(e api.Expr) api.Stmt                 { return api.Stmt{Op: api.SPrint, E: e} }
func read(v int) api.Stmt                      { return api.Stmt{Op: api.SRead, V: v} }
func while(e api.Expr, l ...api.Stmt) api.Stmt { return api.Stmt{Op: api.SWhile, E: e, Body: l} }
func commit() api.Stmt                         { return api.Stmt{Op: api.SCommit} }

func either(e api.Expr, body, other []api.Stmt) api.Stmt {
	return api.Stmt{Op: api.SIf, E: e, Body: body, Else: other}
}

func list(l ...api.Stmt) []api.Stmt     { return l }
func vars(l ...api.Var) []api.Var       { return l }
func commits(n int) []api.Stmt          { return slices.Repeat(list(commit()), n) }
func one(name string, size int) api.Var { return api.Var{Name: name, Size: size} }

// lines: each with its end.
func lines(l ...string) string {
	var b strings.Builder
	for _, s := range l {
		b.WriteString(s + "\n")
	}
	return b.String()
}

// short: a text as a test tells it.
func short(s string) string {
	if len(s) > 200 {
		return fmt.Sprintf("%q.. (%d bytes)", s[:200], len(s))
	}
	return fmt.Sprintf("%q", s)
}

func wantText(t *testing.T, p api.Program, want string) {
	t.Helper()
	got, f := render.Print(p)
	if f != (api.Fault{}) || got != want {
		t.Errorf("Print: %s %v, want %s and no fault", short(got), f, short(want))
	}
}

// wantFault: and no text beside it.
func wantFault(t *testing.T, name string, p api.Program, code int) {
	t.Helper()
	got, f := render.Print(p)
	if want := (api.Fault{Code: code, At: -1}); f != want || got != "" {
		t.Errorf("%s: Print: %s %v, want no text and %v", name, short(got), f, want)
	}
}

// abc: three variables, to be named a, b and c.
func abc() []api.Var { return vars(one("a", 2), one("b", 1), one("c", 3)) }

// wantLines: of statements behind the variables a, b and c.
func wantLines(t *testing.T, body []api.Stmt, want ...string) {
	t.Helper()
	wantText(t, api.Program{Vars: abc(), Body: body}, "let a 2\nlet b 1\nlet c 3\n"+lines(want...))
}

func TestNothing(t *testing.T) {
	wantText(t, api.Program{}, "")
	wantText(t, api.Program{Vars: vars(), Body: list()}, "")
}

func TestVariables(t *testing.T) {
	for want, l := range map[string][]api.Var{
		"let a 1\n":                    vars(one("a", 1)),
		"let a 9\n":                    vars(one("a", 9)),
		"let a 10\n":                   vars(one("a", 10)),
		"let a 48\n":                   vars(one("a", api.MaxCells)),
		"let z 1\n":                    vars(one("z", 1)),
		"let abcdefgh 7\n":             vars(one("abcdefgh", 7)),
		"let zzzzzzzz 48\n":            vars(one("zzzzzzzz", 48)),
		"let a 2\nlet b 1\n":           vars(one("a", 2), one("b", 1)),
		"let b 2\nlet a 46\n":          vars(one("b", 2), one("a", 46)),
		"let let 3\nlet a 1\n":         vars(one("let", 3), one("a", 1)),
		"let commit 1\nlet num 2\n":    vars(one("commit", 1), one("num", 2)),
		"let a 1\nlet aa 1\nlet b 1\n": vars(one("a", 1), one("aa", 1), one("b", 1)),
	} {
		wantText(t, api.Program{Vars: l}, want)
		wantText(t, api.Program{Vars: l, Body: list()}, want)
		wantText(t, api.Program{Vars: l, Body: list(commit())}, want+"(commit)\n")
	}
}

func TestMostVariables(t *testing.T) {
	var l []api.Var
	var want strings.Builder
	for i := range api.MaxVars {
		name := strings.Repeat(string(rune('h'-i)), i+1)
		l = append(l, one(name, i+1))
		fmt.Fprintf(&want, "let %s %d\n", name, i+1)
	}
	wantText(t, api.Program{Vars: l}, want.String())
	wantText(t, api.Program{Vars: l, Body: list(read(0), read(7))}, want.String()+"(read h)\n(read aaaaaaaa)\n")
}

// TestStatements: each verb with all that its kind has.
func TestStatements(t *testing.T) {
	for want, s := range map[string]api.Stmt{
		"(set a (num 5))":                                     set(0, num(5)),
		"(set c (var b))":                                     set(2, first(1)),
		"(put b (num 1) (var c))":                             put(1, num(1), first(2)),
		"(put c (var c) (num 1))":                             put(2, first(2), num(1)),
		"(put a (get b (num 0)) (num -1))":                    put(0, get(1, num(0)), num(-1)),
		"(print (num 7))":                                     tell(num(7)),
		"(print (var a))":                                     tell(first(0)),
		"(read a)":                                            read(0),
		"(read b)":                                            read(1),
		"(read c)":                                            read(2),
		"(while (var c) ())":                                  while(first(2)),
		"(while (num 1) ((commit)))":                          while(num(1), commit()),
		"(while (num 1) ((read c) (commit)))":                 while(num(1), read(2), commit()),
		"(if (num 0) () ())":                                  either(num(0), nil, nil),
		"(if (num 0) ((read b)) ())":                          either(num(0), list(read(1)), nil),
		"(if (num 0) () ((read b)))":                          either(num(0), nil, list(read(1))),
		"(if (num 0) ((commit)) ((read b)))":                  either(num(0), list(commit()), list(read(1))),
		"(if (var b) ((commit) (read a)) ((read c)))":         either(first(1), list(commit(), read(0)), list(read(2))),
		"(if (var b) () ((read c) (commit) (commit)))":        either(first(1), nil, list(read(2), commit(), commit())),
		"(commit)":                                            commit(),
		"(while (num 1) ((while (num 2) ())))":                while(num(1), while(num(2))),
		"(while (num 1) ((while (num 2) ((commit)))))":        while(num(1), while(num(2), commit())),
		"(while (num 1) ((while (num 2) ()) (commit)))":       while(num(1), while(num(2)), commit()),
		"(if (num 1) ((if (num 2) () ())) ())":                either(num(1), list(either(num(2), nil, nil)), nil),
		"(if (num 1) () ((if (num 2) () ())))":                either(num(1), nil, list(either(num(2), nil, nil))),
		"(while (num 1) ((if (num 2) ((commit)) ())))":        while(num(1), either(num(2), list(commit()), nil)),
		"(if (num 1) ((while (num 2) ())) ((print (num 3))))": either(num(1), list(while(num(2))), list(tell(num(3)))),
	} {
		wantLines(t, list(s), want)
		wantLines(t, list(commit(), s), "(commit)", want)
		wantLines(t, list(s, read(1)), want, "(read b)")
		wantLines(t, list(s, s, s), want, want, want)
		wantLines(t, list(while(num(-3), s)), "(while (num -3) ("+want+"))")
		wantLines(t, list(while(num(-3), s, s)), "(while (num -3) ("+want+" "+want+"))")
		wantLines(t, list(either(num(-3), list(s), nil)), "(if (num -3) ("+want+") ())")
		wantLines(t, list(either(num(-3), nil, list(s, s))), "(if (num -3) () ("+want+" "+want+"))")
		wantLines(t, list(either(num(-3), list(s, s), list(s))), "(if (num -3) ("+want+" "+want+") ("+want+"))")
	}
}

// TestStatementsAlone: without variables.
func TestStatementsAlone(t *testing.T) {
	wantText(t, api.Program{Body: list(commit())}, "(commit)\n")
	wantText(t, api.Program{Body: list(tell(num(5)), commit())}, "(print (num 5))\n(commit)\n")
	wantText(t, api.Program{Body: list(while(num(0)), either(num(1), nil, nil))}, "(while (num 0) ())\n(if (num 1) () ())\n")
	wantText(t, api.Program{Body: commits(api.MaxParts)}, strings.Repeat("(commit)\n", api.MaxParts))
}

// TestExpressions: each word with all that its kind has, at each place of a statement and of other expressions.
func TestExpressions(t *testing.T) {
	for s, e := range map[string]api.Expr{
		"(num 0)":                         num(0),
		"(num 1)":                         num(1),
		"(num -1)":                        num(-1),
		"(num 10)":                        num(10),
		"(num -10)":                       num(-10),
		"(num 4294967296)":                num(1 << 32),
		"(num 9007199254740993)":          num(1<<53 + 1),
		"(num 1000000000000000000)":       num(1e18),
		"(num 9223372036854775807)":       num(math.MaxInt64),
		"(num -9223372036854775807)":      num(-math.MaxInt64),
		"(num -9223372036854775808)":      num(math.MinInt64),
		"(var a)":                         first(0),
		"(var b)":                         first(1),
		"(var c)":                         first(2),
		"(get a (num 1))":                 get(0, num(1)),
		"(get c (var b))":                 get(2, first(1)),
		"(get b (get a (get b (num 3))))": get(1, get(0, get(1, num(3)))),
		"(add (num 1) (num 2))":           two(api.EAdd, num(1), num(2)),
		"(sub (num 1) (var b))":           two(api.ESub, num(1), first(1)),
		"(mul (var b) (num 2))":           two(api.EMul, first(1), num(2)),
		"(less (num 2) (num 1))":          two(api.ELess, num(2), num(1)),
		"(same (var a) (get b (num 0)))":  two(api.ESame, first(0), get(1, num(0))),
		"(add (sub (num 1) (mul (num 2) (num 3))) (less (same (var a) (var b)) (num 4)))": two(api.EAdd,
			two(api.ESub, num(1), two(api.EMul, num(2), num(3))),
			two(api.ELess, two(api.ESame, first(0), first(1)), num(4))),
	} {
		for want, x := range map[string]api.Stmt{
			"(set b " + s + ")":                             set(1, e),
			"(put b " + s + " (num 9))":                     put(1, e, num(9)),
			"(put b (num 9) " + s + ")":                     put(1, num(9), e),
			"(print " + s + ")":                             tell(e),
			"(while " + s + " ())":                          while(e),
			"(if " + s + " () ())":                          either(e, nil, nil),
			"(print (get b " + s + "))":                     tell(get(1, e)),
			"(print (sub " + s + " " + s + "))":             tell(two(api.ESub, e, e)),
			"(print (less (num 1) " + s + "))":              tell(two(api.ELess, num(1), e)),
			"(while (num 1) ((print " + s + ")))":           while(num(1), tell(e)),
			"(if (num 1) ((set a " + s + ")) ())":           either(num(1), list(set(0, e)), nil),
			"(if (num 1) () ((put a " + s + " " + s + ")))": either(num(1), nil, list(put(0, e, e))),
		} {
			wantLines(t, list(x), want)
		}
	}
}

// TestVariablesByTheirNames: of each of them, whatever it is called.
func TestVariablesByTheirNames(t *testing.T) {
	names := []string{"let", "num", "get", "commit", "a", "abcdefgh", "aa", "set"}
	var l []api.Var
	ahead := ""
	for _, name := range names {
		l = append(l, one(name, 6))
		ahead += "let " + name + " 6\n"
	}
	for v, name := range names {
		want := lines("(read "+name+")", "(set "+name+" (var "+name+"))", "(put "+name+" (get "+name+" (num 0)) (num 1))")
		wantText(t, api.Program{Vars: l, Body: list(read(v), set(v, first(v)), put(v, get(v, num(0)), num(1)))}, ahead+want)
	}
}

// nest: something in so many others.
func nest[T any](n int, x T, in func(T) T) T {
	for range n {
		x = in(x)
	}
	return x
}

func gets(e api.Expr) api.Expr   { return get(0, e) }
func whiles(s api.Stmt) api.Stmt { return while(num(1), s) }
func elses(s api.Stmt) api.Stmt  { return either(num(1), nil, list(s)) }

// TestMostDeep: what stands in MaxDeep others, and in one more.
func TestMostDeep(t *testing.T) {
	const deep = api.MaxDeep
	around := func(n int, open, in, shut string) string {
		return strings.Repeat(open, n) + in + strings.Repeat(shut, n)
	}
	wantLines(t, list(nest(deep, commit(), whiles)), around(deep, "(while (num 1) (", "(commit)", "))"))
	wantLines(t, list(nest(deep, read(2), elses)), around(deep, "(if (num 1) () (", "(read c)", "))"))
	wantLines(t, list(tell(nest(deep-1, num(-7), gets))), "(print "+around(deep-1, "(get a ", "(num -7)", ")")+")")
	wantLines(t, list(nest(5, tell(nest(deep-6, first(1), gets)), whiles)), around(5, "(while (num 1) (", "(print "+around(deep-6, "(get a ", "(var b)", ")")+")", "))"))
	for name, s := range map[string]api.Stmt{
		"whiles": nest(deep+1, commit(), whiles),
		"elses":  nest(deep+1, read(2), elses),
		"gets":   tell(nest(deep, num(-7), gets)),
		"both":   nest(5, tell(nest(deep-5, first(1), gets)), whiles),
		"an E":   nest(deep, tell(num(1)), whiles),
	} {
		wantFault(t, name, api.Program{Vars: abc(), Body: list(s)}, api.ErrDeep)
	}
}

// rich: each kind of statements and of expressions, one behind the other and one in another.
func rich() api.Program {
	return api.Program{
		Vars: vars(one("a", 3), one("total", 1), one("zzzzzzzz", 44)),
		Body: list(
			read(1),
			set(0, two(api.EAdd, first(1), num(-7))),
			while(two(api.ELess, first(0), get(2, num(5))),
				put(2, two(api.ESub, first(0), num(1)), two(api.EMul, get(0, first(1)), get(2, get(0, num(2))))),
				either(two(api.ESame, first(2), num(math.MinInt64)),
					list(tell(num(math.MaxInt64)), commit()),
					list(while(num(0)), read(2), either(num(1), nil, list(commit())))),
				commit(),
			),
			either(num(0), list(set(1, num(4))), nil),
			tell(get(0, two(api.EAdd, num(0), first(2)))),
			commit(),
		),
	}
}

func TestRich(t *testing.T) {
	wantText(t, rich(), lines(
		"let a 3",
		"let total 1",
		"let zzzzzzzz 44",
		"(read total)",
		"(set a (add (var total) (num -7)))",
		"(while (less (var a) (get zzzzzzzz (num 5))) "+
			"((put zzzzzzzz (sub (var a) (num 1)) (mul (get a (var total)) (get zzzzzzzz (get a (num 2))))) "+
			"(if (same (var zzzzzzzz) (num -9223372036854775808)) ((print (num 9223372036854775807)) (commit)) "+
			"((while (num 0) ()) (read zzzzzzzz) (if (num 1) () ((commit))))) (commit)))",
		"(if (num 0) ((set total (num 4))) ())",
		"(print (get a (add (num 0) (var zzzzzzzz))))",
		"(commit)",
	))
}

// TestNilIsEmpty: in each place that has a list.
func TestNilIsEmpty(t *testing.T) {
	for _, p := range append(programs(), rich()) {
		want, _ := render.Print(p)
		wantText(t, withNils(p), want)
		wantText(t, withEmpties(p), want)
	}
	none := []api.Expr{}
	wantLines(t, list(api.Stmt{Op: api.SRead, E: api.Expr{L: none}, F: api.Expr{L: none}, Body: list(), Else: list()}), "(read a)")
	wantLines(t, list(api.Stmt{Op: api.SPrint, E: api.Expr{Op: api.EVar, L: none}, F: api.Expr{L: none}, Body: list(), Else: list()}), "(print (var a))")
	wantFault(t, "an E of no kind", api.Program{Body: list(api.Stmt{Op: api.SPrint, E: api.Expr{L: none}})}, api.ErrKind)
}
