package parse_test

import (
	"fmt"
	"math"
	"reflect"
	"strings"
	"testing"

	"overwinter/api"
	"overwinter/parse"
)

func num(n int64) api.Expr                     { return api.Expr{Op: api.ENum, N: n} }
func first(v int) api.Expr                     { return api.Expr{Op: api.EVar, V: v} }
func get(v int, e api.Expr) api.Expr           { return api.Expr{Op: api.EGet, V: v, L: []api.Expr{e}} }
func two(op int, a, b api.Expr) api.Expr       { return api.Expr{Op: op, L: []api.Expr{a, b}} }
func set(v int, e api.Expr) api.Stmt           { return api.Stmt{Op: api.SSet, V: v, E: e} }
func put(v int, e, f api.Expr) api.Stmt        { return api.Stmt{Op: api.SPut, V: v, E: e, F: f} }
func tell(e api.Expr) api.Stmt                 { return api.Stmt{Op: api.SPrint, E: e} }
func read(v int) api.Stmt                      { return api.Stmt{Op: api.SRead, V: v} }
func while(e api.Expr, l ...api.Stmt) api.Stmt { return api.Stmt{Op: api.SWhile, E: e, Body: l} }
func commit() api.Stmt                         { return api.Stmt{Op: api.SCommit} }

func either(e api.Expr, body, other []api.Stmt) api.Stmt {
	return api.Stmt{Op: api.SIf, E: e, Body: body, Else: other}
}

func list(l ...api.Stmt) []api.Stmt { return l }
func vars(l ...api.Var) []api.Var   { return l }

// short: a text as a test tells it.
func short(s string) string {
	if len(s) > 200 {
		return fmt.Sprintf("%q.. (%d bytes)", s[:200], len(s))
	}
	return fmt.Sprintf("%q", s)
}

// alike: a list without elements is the same, be it nil or empty; all else is held against each other to the last field.
func alike(a, b api.Program) bool {
	return reflect.DeepEqual(withNils(a), withNils(b))
}

func withNils(p api.Program) api.Program {
	return api.Program{Vars: append([]api.Var(nil), p.Vars...), Body: stmtsWithNils(p.Body)}
}

func stmtsWithNils(l []api.Stmt) []api.Stmt {
	var out []api.Stmt
	for _, s := range l {
		s.E.L, s.F.L = exprsWithNils(s.E.L), exprsWithNils(s.F.L)
		s.Body, s.Else = stmtsWithNils(s.Body), stmtsWithNils(s.Else)
		out = append(out, s)
	}
	return out
}

func exprsWithNils(l []api.Expr) []api.Expr {
	var out []api.Expr
	for _, e := range l {
		e.L = exprsWithNils(e.L)
		out = append(out, e)
	}
	return out
}

func wantProgram(t *testing.T, s string, want api.Program) {
	t.Helper()
	got, f := parse.Parse(s)
	if f != (api.Fault{}) || !alike(got, want) {
		t.Errorf("%s: %v %v, want %v and no fault", short(s), got, f, want)
	}
}

// wantFault: and no program beside it.
func wantFault(t *testing.T, s string, code, at int) {
	t.Helper()
	got, f := parse.Parse(s)
	if want := (api.Fault{Code: code, At: at}); f != want || len(got.Vars) != 0 || len(got.Body) != 0 {
		t.Errorf("%s: %v %v, want no program and %v", short(s), got, f, want)
	}
}

var (
	allWords = []string{"num", "var", "get", "add", "sub", "mul", "less", "same"}
	allVerbs = []string{"set", "put", "print", "read", "while", "if", "commit"}
)

func TestWord(t *testing.T) {
	for i, want := range allWords {
		if got := parse.Word(api.ENum + i); got != want {
			t.Errorf("Word(%d): %q, want %q", api.ENum+i, got, want)
		}
	}
	for _, op := range append([]int{api.ENum - 1, api.ESame + 1}, far...) {
		if got := parse.Word(op); got != "" {
			t.Errorf("Word(%d): %q, want none", op, got)
		}
	}
}

func TestVerb(t *testing.T) {
	for i, want := range allVerbs {
		if got := parse.Verb(api.SSet + i); got != want {
			t.Errorf("Verb(%d): %q, want %q", api.SSet+i, got, want)
		}
	}
	for _, op := range append([]int{api.SSet - 1, api.SCommit + 1}, far...) {
		if got := parse.Verb(op); got != "" {
			t.Errorf("Verb(%d): %q, want none", op, got)
		}
	}
}

// far: numbers of no kind; those that are a kind in fewer bits are among them.
var far = []int{-1, -2, -7, -8, 9, 10, 100, 1<<8 + 1, 1<<16 + 1, 1<<31 + 1, 1<<32 + 1, -1<<32 + 1, math.MaxInt, math.MaxInt - 1, math.MinInt, math.MinInt + 1}

func TestNoText(t *testing.T) {
	for _, s := range []string{"", " ", "\t", "\n", "\r", " \t\r\n ", strings.Repeat(" ", api.MaxText)} {
		wantProgram(t, s, api.Program{})
	}
}

func TestVariables(t *testing.T) {
	for s, want := range map[string][]api.Var{
		"let a 1":                 vars(api.Var{Name: "a", Size: 1}),
		"let a 48":                vars(api.Var{Name: "a", Size: 48}),
		"let abcdefgh 7":          vars(api.Var{Name: "abcdefgh", Size: 7}),
		"let a 2 let b 1":         vars(api.Var{Name: "a", Size: 2}, api.Var{Name: "b", Size: 1}),
		"let b 2 let a 46":        vars(api.Var{Name: "b", Size: 2}, api.Var{Name: "a", Size: 46}),
		"let let 3":               vars(api.Var{Name: "let", Size: 3}),
		"let let 3 let a 1":       vars(api.Var{Name: "let", Size: 3}, api.Var{Name: "a", Size: 1}),
		"let a 1 let let 3":       vars(api.Var{Name: "a", Size: 1}, api.Var{Name: "let", Size: 3}),
		"let set 1 let num 2":     vars(api.Var{Name: "set", Size: 1}, api.Var{Name: "num", Size: 2}),
		"let commit 1":            vars(api.Var{Name: "commit", Size: 1}),
		"let a1let b2let ab3":     vars(api.Var{Name: "a", Size: 1}, api.Var{Name: "b", Size: 2}, api.Var{Name: "ab", Size: 3}),
		"\nlet\ta\r\n12\r\n":      vars(api.Var{Name: "a", Size: 12}),
		"  let   a   1\nlet b 1 ": vars(api.Var{Name: "a", Size: 1}, api.Var{Name: "b", Size: 1}),
	} {
		wantProgram(t, s, api.Program{Vars: want})
		wantProgram(t, s+"(commit)", api.Program{Vars: want, Body: list(commit())})
	}
	var s strings.Builder
	var most []api.Var
	for i := range api.MaxVars {
		x := api.Var{Name: string(rune('a' + i)), Size: 6}
		fmt.Fprintf(&s, "let %s %d\n", x.Name, x.Size)
		most = append(most, x)
	}
	wantProgram(t, s.String(), api.Program{Vars: most})
}

// TestStatements: each verb with all that its kind has, behind the variables a, b and c.
func TestStatements(t *testing.T) {
	for s, want := range map[string][]api.Stmt{
		"(set a (num 5))":                     list(set(0, num(5))),
		"(set c (var b))":                     list(set(2, first(1))),
		"(put b (num 1) (var c))":             list(put(1, num(1), first(2))),
		"(put a (get b (num 0)) (num -1))":    list(put(0, get(1, num(0)), num(-1))),
		"(print (num 7))":                     list(tell(num(7))),
		"(read a)":                            list(read(0)),
		"(read b)":                            list(read(1)),
		"(read c)":                            list(read(2)),
		"(while (var c) ())":                  list(while(first(2))),
		"(while (num 1) ((commit)))":          list(while(num(1), commit())),
		"(while (num 1) ((read c) (commit)))": list(while(num(1), read(2), commit())),
		"(if (num 0) () ())":                  list(either(num(0), nil, nil)),
		"(if (num 0) ((read b)) ())":          list(either(num(0), list(read(1)), nil)),
		"(if (num 0) () ((read b)))":          list(either(num(0), nil, list(read(1)))),
		"(if (num 0) ((commit)) ((read b)))":  list(either(num(0), list(commit()), list(read(1)))),
		"(if (var b) ((commit) (read a) (commit)) ((read b) (read c)))": list(either(first(1), list(commit(), read(0), commit()), list(read(1), read(2)))),
		"(commit)":                             list(commit()),
		"(commit) (commit)":                    list(commit(), commit()),
		"(read b) (commit) (print (num 2))":    list(read(1), commit(), tell(num(2))),
		"(while (num 1) ((while (num 2) ())))": list(while(num(1), while(num(2)))),
		"(while (num 1) ((while (num 2) ()) (if (num 3) ((while (num 4) ((commit)))) ((if (num 5) () ()))))) (read a)": list(
			while(num(1), while(num(2)), either(num(3), list(while(num(4), commit())), list(either(num(5), nil, nil)))),
			read(0)),
	} {
		wantProgram(t, "let a 2 let b 1 let c 3 "+s, api.Program{Vars: vars(api.Var{Name: "a", Size: 2}, api.Var{Name: "b", Size: 1}, api.Var{Name: "c", Size: 3}), Body: want})
	}
	wantProgram(t, "(print (num 5)) (commit)", api.Program{Body: list(tell(num(5)), commit())})
	wantProgram(t, strings.Repeat("(commit)", api.MaxParts), api.Program{Body: commits(api.MaxParts)})
}

func commits(n int) []api.Stmt {
	l := make([]api.Stmt, n)
	for i := range l {
		l[i] = commit()
	}
	return l
}

// TestExpressions: each word with all that its kind has, at each place of a statement and of other expressions.
func TestExpressions(t *testing.T) {
	all := vars(api.Var{Name: "a", Size: 2}, api.Var{Name: "b", Size: 1})
	exprs := map[string]api.Expr{
		"(num 0)":                         num(0),
		"(num -1)":                        num(-1),
		"(num 9223372036854775807)":       num(math.MaxInt64),
		"(num -9223372036854775808)":      num(math.MinInt64),
		"(var a)":                         first(0),
		"(var b)":                         first(1),
		"(get a (num 1))":                 get(0, num(1)),
		"(get b (get a (get b (num 3))))": get(1, get(0, get(1, num(3)))),
		"(add (num 1) (num 2))":           two(api.EAdd, num(1), num(2)),
		"(sub (num 1) (var b))":           two(api.ESub, num(1), first(1)),
		"(mul (var b) (num 2))":           two(api.EMul, first(1), num(2)),
		"(less (num 2) (num 1))":          two(api.ELess, num(2), num(1)),
		"(same (var a) (get b (num 0)))":  two(api.ESame, first(0), get(1, num(0))),
		"(add (sub (num 1) (mul (num 2) (num 3))) (less (same (var a) (var b)) (num 4)))": two(api.EAdd,
			two(api.ESub, num(1), two(api.EMul, num(2), num(3))),
			two(api.ELess, two(api.ESame, first(0), first(1)), num(4))),
	}
	for s, e := range exprs {
		for text, want := range map[string]api.Stmt{
			"(set b " + s + ")":                       set(1, e),
			"(put b " + s + " (num 9))":               put(1, e, num(9)),
			"(put b (num 9) " + s + ")":               put(1, num(9), e),
			"(print " + s + ")":                       tell(e),
			"(while " + s + " ())":                    while(e),
			"(if " + s + " () ())":                    either(e, nil, nil),
			"(print (get b " + s + "))":               tell(get(1, e)),
			"(print (sub " + s + " " + s + "))":       tell(two(api.ESub, e, e)),
			"(while (num 1) ((print " + s + ")))":     while(num(1), tell(e)),
			"(if (num 1) ((set a " + s + ")) ())":     either(num(1), list(set(0, e)), nil),
			"(if (num 1) () ((put a " + s + s + ")))": either(num(1), nil, list(put(0, e, e))),
			"(put a (add (num 1)" + s + ")" + s + ")": put(0, two(api.EAdd, num(1), e), e),
		} {
			wantProgram(t, "let a 2 let b 1 "+text, api.Program{Vars: all, Body: list(want)})
		}
	}
}

// TestNamesThatAreWords: a name is one by where it stands, be it spelled as a verb, a word or let.
func TestNamesThatAreWords(t *testing.T) {
	for _, name := range append(append([]string{"let"}, allWords...), allVerbs...) {
		of := func(body ...api.Stmt) api.Program {
			return api.Program{Vars: vars(api.Var{Name: "a", Size: 1}, api.Var{Name: name, Size: 2}), Body: body}
		}
		ahead := "let a 1 let " + name + " 2 "
		wantProgram(t, ahead, of())
		wantProgram(t, ahead+"(read "+name+")", of(read(1)))
		wantProgram(t, ahead+"(set "+name+" (var "+name+"))", of(set(1, first(1))))
		wantProgram(t, ahead+"(put "+name+" (get "+name+" (num 0)) (num 1))", of(put(1, get(1, num(0)), num(1))))
		wantFault(t, "let a 1 (read "+name+")", api.ErrNone, 14)
		wantFault(t, ahead+"("+name+"x)", api.ErrForm, len(ahead)+1)
	}
}

// TestNamesAtTheirEdges: of one letter and of as many as may be, the beginning of another one.
func TestNamesAtTheirEdges(t *testing.T) {
	long := strings.Repeat("z", api.MaxName)
	all := vars(api.Var{Name: "z", Size: 1}, api.Var{Name: long, Size: 1}, api.Var{Name: long[1:], Size: 1})
	ahead := "let z 1 let " + long + " 1 let " + long[1:] + " 1 "
	wantProgram(t, ahead+"(read "+long+") (read z) (read "+long[1:]+")", api.Program{Vars: all, Body: list(read(1), read(0), read(2))})
	wantProgram(t, ahead+"(print (var "+long[1:]+"))", api.Program{Vars: all, Body: list(tell(first(2)))})
	wantFault(t, ahead+"(read "+long[2:]+")", api.ErrNone, len(ahead)+6)
	wantFault(t, ahead+"(read "+long+"z)", api.ErrForm, len(ahead)+6)
	wantFault(t, "let "+long+"z 1", api.ErrForm, 4)
	wantFault(t, ahead+"(print (var "+long+"z))", api.ErrForm, len(ahead)+12)
	wantFault(t, ahead+"(print (get "+strings.Repeat("z", 300)+" (num 0)))", api.ErrForm, len(ahead)+12)
}

// rich: each verb and each word, and statements in statements.
const rich = "let a 3 let total 1 let zzzzzzzz 44 (read total) (set a (add (var total) (num -7))) " +
	"(while (less (var a) (get zzzzzzzz (num 5))) ((put zzzzzzzz (sub (var a) (num 1)) (mul (get a (var total)) (get zzzzzzzz (get a (num 2))))) " +
	"(if (same (var zzzzzzzz) (num -9223372036854775808)) ((print (num 9223372036854775807)) (commit)) ((while (num 0) ()) (read zzzzzzzz) (if (num 1) () ((commit))))) (commit))) " +
	"(if (num 0) ((set total (num 4))) ()) (print (get a (add (num 0) (var zzzzzzzz)))) (commit)"

func richProgram() api.Program {
	return api.Program{
		Vars: vars(api.Var{Name: "a", Size: 3}, api.Var{Name: "total", Size: 1}, api.Var{Name: "zzzzzzzz", Size: 44}),
		Body: list(
			read(1),
			set(0, two(api.EAdd, first(1), num(-7))),
			while(two(api.ELess, first(0), get(2, num(5))),
				put(2, two(api.ESub, first(0), num(1)), two(api.EMul, get(0, first(1)), get(2, get(0, num(2))))),
				either(two(api.ESame, first(2), num(math.MinInt64)),
					list(tell(num(math.MaxInt64)), commit()),
					list(while(num(0)), read(2), either(num(1), nil, list(commit())))),
				commit(),
			),
			either(num(0), list(set(1, num(4))), nil),
			tell(get(0, two(api.EAdd, num(0), first(2)))),
			commit(),
		),
	}
}

func TestRich(t *testing.T) {
	wantProgram(t, rich, richProgram())
}
