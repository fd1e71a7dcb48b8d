package compile_test

import (
	"fmt"
	"math"
	"slices"
	"strconv"
	"strings"
	"testing"

	"overwinter/api"
	"overwinter/compile"
)

func num(n int64) api.Expr                     { return api.Expr{Op: api.ENum, N: n} }
func first(v int) api.Expr                     { return api.Expr{Op: api.EVar, V: v} }
func get(v int, e api.Expr) api.Expr           { return api.Expr{Op: api.EGet, V: v, L: []api.Expr{e}} }
func two(op int, a, b api.Expr) api.Expr       { return api.Expr{Op: op, L: []api.Expr{a, b}} }
func set(v int, e api.Expr) api.Stmt           { return api.Stmt{Op: api.SSet, V: v, E: e} }
func put(v int, e, f api.Expr) api.Stmt        { return api.Stmt{Op: api.SPut, V: v, E: e, F: f} }
func tell(e api.Expr) api.Stmt                 { return api.Stmt{Op: api.SPrint, E: e} }
func read(v int) api.Stmt                      { return api.Stmt{Op: api.SRead, V: v} }
func while(e api.Expr, l ...api.Stmt) api.Stmt { return api.Stmt{Op: api.SWhile, E: e, Body: l} }
func commit() api.Stmt                         { return api.Stmt{Op: api.SCommit} }

func either(e api.Expr, body, other []api.Stmt) api.Stmt {
	return api.Stmt{Op: api.SIf, E: e, Body: body, Else: other}
}

func list(l ...api.Stmt) []api.Stmt     { return l }
func vars(l ...api.Var) []api.Var       { return l }
func commits(n int) []api.Stmt          { return slices.Repeat(list(commit()), n) }
func one(name string, size int) api.Var { return api.Var{Name: name, Size: size} }

// abc: three variables, whose cells begin at 0, 2 and 3.
func abc() []api.Var { return vars(one("a", 2), one("b", 1), one("c", 3)) }

// sized: variables of these sizes.
func sized(sizes ...int) []api.Var {
	var l []api.Var
	for i, size := range sizes {
		l = append(l, one(string(rune('a'+i)), size))
	}
	return l
}

// names: what a test calls an instruction, in the order of the document, from 1 on.
var names = strings.Fields("- num var get add sub mul less same set put print read else jump commit halt")

// written: instructions as a test writes them, with ; between: a name, and behind it N of num, A and B of others, as far as they are said.
func written(s string) []compile.Ins {
	var l []compile.Ins
	for _, part := range strings.Split(s, ";") {
		words := strings.Fields(part)
		x := compile.Ins{Op: slices.Index(names, words[0])}
		into := []func(int64){func(n int64) { x.A = int(n) }, func(n int64) { x.B = int(n) }}
		if x.Op == compile.INum {
			into = []func(int64){func(n int64) { x.N = n }}
		}
		for i, word := range words[1:] {
			n, err := strconv.ParseInt(word, 10, 64)
			if err != nil || x.Op < 1 {
				panic("a test is written wrong: " + part)
			}
			into[i](n)
		}
		l = append(l, x)
	}
	return l
}

func wantList(t *testing.T, p api.Program, want []compile.Ins) {
	t.Helper()
	got, code := compile.Make(p)
	if code != 0 || !slices.Equal(got, want) {
		t.Errorf("Make(%v): %v and code %d, want %v and none", p, got, code, want)
	}
}

// wantCode: and no instruction beside it.
func wantCode(t *testing.T, name string, p api.Program, want int) {
	t.Helper()
	if got, code := compile.Make(p); code != want || len(got) != 0 {
		t.Errorf("%s: Make: %v and code %d, want no instruction and %d", name, got, code, want)
	}
}

// wantIns: of statements with the variables a, b and c.
func wantIns(t *testing.T, want string, body ...api.Stmt) {
	t.Helper()
	wantList(t, api.Program{Vars: abc(), Body: body}, written(want))
}

// TestNumbersOfInstructions: as the document lists them.
func TestNumbersOfInstructions(t *testing.T) {
	for i, got := range []int{
		0, compile.INum, compile.IVar, compile.IGet, compile.IAdd, compile.ISub, compile.IMul, compile.ILess, compile.ISame,
		compile.ISet, compile.IPut, compile.IPrint, compile.IRead, compile.IElse, compile.IJump, compile.ICommit, compile.IHalt,
	} {
		if got != i {
			t.Errorf("instruction %s is %d, want %d", names[i], got, i)
		}
	}
	var n int64 = math.MinInt64
	if x := (compile.Ins{Op: 1, A: 2, B: 3, N: n}); x != (compile.Ins{1, 2, 3, n}) {
		t.Errorf("an instruction has other fields: %v", x)
	}
}

func TestNothing(t *testing.T) {
	wantList(t, api.Program{}, written("halt"))
	wantList(t, api.Program{Vars: vars(), Body: list()}, []compile.Ins{{Op: 16}})
}

func TestVariablesAlone(t *testing.T) {
	for _, l := range [][]api.Var{abc(), sized(1), sized(api.MaxCells), sized(1, 47), sized(47, 1), sized(1, 2, 3, 4, 5, 6, 7, 8)} {
		wantList(t, api.Program{Vars: l}, written("halt"))
		wantList(t, api.Program{Vars: l, Body: list()}, written("halt"))
	}
}

// TestStatements: each with all that its kind has.
func TestStatements(t *testing.T) {
	wantIns(t, "num 5; set 0; halt", set(0, num(5)))
	wantIns(t, "num 5; set 2; halt", set(1, num(5)))
	wantIns(t, "var 2; set 3; halt", set(2, first(1)))
	wantIns(t, "num 1; num 9; put 0 2; halt", put(0, num(1), num(9)))
	wantIns(t, "num 1; var 3; put 2 1; halt", put(1, num(1), first(2)))
	wantIns(t, "var 3; num 1; put 3 3; halt", put(2, first(2), num(1)))
	wantIns(t, "num 0; get 2 1; num -1; num 2; add; put 0 2; halt", put(0, get(1, num(0)), two(api.EAdd, num(-1), num(2))))
	wantIns(t, "num 7; print; halt", tell(num(7)))
	wantIns(t, "var 0; print; halt", tell(first(0)))
	wantIns(t, "read 0; halt", read(0))
	wantIns(t, "read 2; halt", read(1))
	wantIns(t, "read 3; halt", read(2))
	wantIns(t, "commit; halt", commit())
	wantIns(t, "commit; commit; commit; halt", commits(3)...)
	wantIns(t, "read 2; commit; num 1; print; var 2; set 0; halt", read(1), commit(), tell(num(1)), set(0, first(1)))
}

// TestExpressions: each in each place that an expression may have.
func TestExpressions(t *testing.T) {
	for s, e := range map[string]api.Expr{
		"num 0":                            num(0),
		"num 1":                            num(1),
		"num -1":                           num(-1),
		"var 0":                            first(0),
		"var 2":                            first(1),
		"var 3":                            first(2),
		"num 1; get 0 2":                   get(0, num(1)),
		"var 2; get 3 3":                   get(2, first(1)),
		"num -3; get 2 1":                  get(1, num(-3)),
		"num 3; get 2 1; get 0 2; get 3 3": get(2, get(0, get(1, num(3)))),
		"num 1; num 2; add":                two(api.EAdd, num(1), num(2)),
		"num 2; num 1; add":                two(api.EAdd, num(2), num(1)),
		"num 1; var 2; sub":                two(api.ESub, num(1), first(1)),
		"var 2; num 2; mul":                two(api.EMul, first(1), num(2)),
		"num 2; num 1; less":               two(api.ELess, num(2), num(1)),
		"var 0; num 0; get 2 1; same":      two(api.ESame, first(0), get(1, num(0))),
		"num 1; num 2; num 3; mul; sub; var 0; var 2; same; num 4; less; add": two(api.EAdd,
			two(api.ESub, num(1), two(api.EMul, num(2), num(3))),
			two(api.ELess, two(api.ESame, first(0), first(1)), num(4))),
	} {
		n := len(written(s))
		wantIns(t, s+"; set 2; halt", set(1, e))
		wantIns(t, s+"; num 9; put 3 3; halt", put(2, e, num(9)))
		wantIns(t, "num 9; "+s+"; put 3 3; halt", put(2, num(9), e))
		wantIns(t, s+"; "+s+"; put 0 2; halt", put(0, e, e))
		wantIns(t, s+"; print; halt", tell(e))
		wantIns(t, s+"; get 2 1; print; halt", tell(get(1, e)))
		wantIns(t, s+"; "+s+"; sub; print; halt", tell(two(api.ESub, e, e)))
		wantIns(t, "num 1; "+s+"; less; print; halt", tell(two(api.ELess, num(1), e)))
		wantIns(t, s+"; num 1; less; print; halt", tell(two(api.ELess, e, num(1))))
		wantIns(t, fmt.Sprintf("%s; else %d; jump 0; halt", s, n+2), while(e))
		wantIns(t, fmt.Sprintf("%s; else %d; jump %d; halt", s, n+2, n+2), either(e, nil, nil))
		wantIns(t, fmt.Sprintf("num 1; else %d; %s; print; jump 0; halt", n+4, s), while(num(1), tell(e)))
	}
}

// TestWhiles: each jump's place, from 0 on.
func TestWhiles(t *testing.T) {
	wantIns(t, "var 3; else 3; jump 0; halt", while(first(2)))
	wantIns(t, "num 1; else 4; commit; jump 0; halt", while(num(1), commit()))
	wantIns(t, "num 1; else 5; read 3; commit; jump 0; halt", while(num(1), read(2), commit()))
	wantIns(t, "commit; num 1; else 5; commit; jump 1; read 0; halt", commit(), while(num(1), commit()), read(0))
	wantIns(t, "num 1; else 3; jump 0; num 2; else 6; jump 3; halt", while(num(1)), while(num(2)))
	wantIns(t, "num 1; num 2; less; else 6; commit; jump 0; halt", while(two(api.ELess, num(1), num(2)), commit()))
	wantIns(t, "commit; num 1; get 0 2; else 6; read 0; jump 1; halt", commit(), while(get(0, num(1)), read(0)))

	wantIns(t, "num 1; else 6; num 2; else 5; jump 2; jump 0; halt", while(num(1), while(num(2))))
	wantIns(t, "num 1; else 7; num 2; else 6; commit; jump 2; jump 0; halt", while(num(1), while(num(2), commit())))
	wantIns(t, "num 1; else 8; commit; num 2; else 6; jump 3; commit; jump 0; halt", while(num(1), commit(), while(num(2)), commit()))
	wantIns(t, "num 1; else 9; num 2; else 5; jump 2; num 3; else 8; jump 5; jump 0; halt", while(num(1), while(num(2)), while(num(3))))
	wantIns(t, "num 1; else 9; num 2; else 8; num 3; else 7; jump 4; jump 2; jump 0; halt", while(num(1), while(num(2), while(num(3)))))
}

func TestIfs(t *testing.T) {
	wantIns(t, "num 0; else 3; jump 3; halt", either(num(0), nil, nil))
	wantIns(t, "num 0; else 4; read 2; jump 4; halt", either(num(0), list(read(1)), nil))
	wantIns(t, "num 0; else 3; jump 4; read 2; halt", either(num(0), nil, list(read(1))))
	wantIns(t, "num 0; else 4; commit; jump 5; read 2; halt", either(num(0), list(commit()), list(read(1))))
	wantIns(t, "var 2; else 5; commit; read 0; jump 6; read 3; halt", either(first(1), list(commit(), read(0)), list(read(2))))
	wantIns(t, "var 2; else 3; jump 6; read 3; commit; commit; halt", either(first(1), nil, list(read(2), commit(), commit())))
	wantIns(t, "commit; num 0; else 5; read 0; jump 6; read 2; read 3; halt", commit(), either(num(0), list(read(0)), list(read(1))), read(2))
	wantIns(t, "num 1; num 2; same; else 6; commit; jump 7; read 0; halt", either(two(api.ESame, num(1), num(2)), commits(1), list(read(0))))
	wantIns(t, "num 1; else 3; jump 3; num 2; else 6; jump 6; halt", either(num(1), nil, nil), either(num(2), nil, nil))

	inner := either(num(2), list(read(0)), list(read(1)))
	wantIns(t, "num 1; else 8; num 2; else 6; read 0; jump 7; read 2; jump 8; halt", either(num(1), list(inner), nil))
	wantIns(t, "num 1; else 3; jump 8; num 2; else 7; read 0; jump 8; read 2; halt", either(num(1), nil, list(inner)))
	wantIns(t, "num 1; else 8; num 2; else 6; read 0; jump 7; read 2; jump 13; num 2; else 12; read 0; jump 13; read 2; halt", either(num(1), list(inner), list(inner)))
	wantIns(t, "num 1; else 10; commit; num 2; else 7; read 0; jump 8; read 2; commit; jump 11; read 3; halt", either(num(1), list(commit(), inner, commit()), list(read(2))))
}

// TestWhilesAndIfs: the one in the other.
func TestWhilesAndIfs(t *testing.T) {
	wantIns(t, "num 1; else 8; num 2; else 6; commit; jump 7; read 0; jump 0; halt", while(num(1), either(num(2), list(commit()), list(read(0)))))
	wantIns(t, "num 1; else 6; num 2; else 5; jump 5; jump 0; halt", while(num(1), either(num(2), nil, nil)))
	wantIns(t, "num 1; else 7; num 2; else 6; commit; jump 2; jump 7; halt", either(num(1), list(while(num(2), commit())), nil))
	wantIns(t, "num 1; else 3; jump 7; num 2; else 7; commit; jump 3; halt", either(num(1), nil, list(while(num(2), commit()))))
	wantIns(t, "num 1; else 6; num 2; else 5; jump 2; jump 9; num 3; else 9; jump 6; halt", either(num(1), list(while(num(2))), list(while(num(3)))))
	wantIns(t, "num 1; else 12; read 0; num 2; else 9; num 3; else 8; jump 5; jump 10; commit; read 2; jump 0; num 4; print; halt",
		while(num(1), read(0), either(num(2), list(while(num(3))), list(commit())), read(1)), tell(num(4)))
}

// TestCells: where each variable's cells begin, and how many they are, of the first, of the last and of those between.
func TestCells(t *testing.T) {
	for _, sizes := range [][]int{{1}, {api.MaxCells}, {1, 47}, {47, 1}, {3, 1, 44}, {1, 1, 1, 1, 1, 1, 1, 1}, {1, 2, 3, 4, 5, 6, 7, 8}, {8, 7, 6, 5, 4, 3, 2, 1}, {6, 6, 6, 6, 6, 6, 6, 6}, {41, 1, 1, 1, 1, 1, 1, 1}, {1, 1, 1, 1, 1, 1, 1, 41}} {
		begin := 0
		for v, size := range sizes {
			p := api.Program{Vars: sized(sizes...), Body: list(read(v), set(v, first(v)), put(v, get(v, num(1)), num(2)))}
			wantList(t, p, []compile.Ins{
				{Op: 12, A: begin},
				{Op: 2, A: begin}, {Op: 9, A: begin},
				{Op: 1, N: 1}, {Op: 3, A: begin, B: size}, {Op: 1, N: 2}, {Op: 10, A: begin, B: size},
				{Op: 16},
			})
			begin += size
		}
	}
}

// TestNumbers: of 64 bits, wherever they stand.
func TestNumbers(t *testing.T) {
	for _, n := range []int64{0, 1, -1, 2, math.MaxInt64, math.MaxInt64 - 1, math.MinInt64, math.MinInt64 + 1, 1 << 31, -1 << 31, 1 << 32, -1 << 32, 1<<32 + 1, 1<<53 + 1} {
		wantIns(t, fmt.Sprintf("num %d; print; num %d; num %d; get 0 2; put 3 3; halt", n, n, n), tell(num(n)), put(2, num(n), get(0, num(n))))
	}
}

// nest: something in so many others.
func nest[T any](n int, x T, in func(T) T) T {
	for range n {
		x = in(x)
	}
	return x
}

func gets(e api.Expr) api.Expr   { return get(2, e) }
func whiles(s api.Stmt) api.Stmt { return while(num(1), s) }
func thens(s api.Stmt) api.Stmt  { return either(num(1), list(s), nil) }
func elses(s api.Stmt) api.Stmt  { return either(num(1), nil, list(s)) }

// TestMostDeepStatements: what stands in MaxDeep others.
func TestMostDeepStatements(t *testing.T) {
	const deep = api.MaxDeep
	var whileAhead, whileBehind, thenBehind, elseAhead string
	for k := range deep {
		whileAhead += fmt.Sprintf("num 1; else %d; ", 3*deep+1-k)
		whileBehind = fmt.Sprintf("jump %d; ", 2*k) + whileBehind
		thenBehind += fmt.Sprintf("jump %d; ", 2*deep+2+k)
		elseAhead += fmt.Sprintf("num 1; else %d; jump %d; ", 3*k+3, 3*deep+1)
	}
	wantIns(t, whileAhead+"commit; "+whileBehind+"halt", nest(deep, commit(), whiles))
	wantIns(t, whileAhead+"read 2; "+thenBehind+"halt", nest(deep, read(1), thens))
	wantIns(t, elseAhead+"read 3; halt", nest(deep, read(2), elses))
	for _, in := range []func(api.Stmt) api.Stmt{whiles, thens, elses} {
		wantCode(t, "one deeper", api.Program{Vars: abc(), Body: list(nest(deep+1, commit(), in))}, api.ErrDeep)
	}
}

func TestMostDeepExpressions(t *testing.T) {
	const deep = api.MaxDeep
	left := func(e api.Expr) api.Expr { return two(api.ESub, e, num(8)) }
	right := func(e api.Expr) api.Expr { return two(api.ELess, num(8), e) }
	wantIns(t, "num -7; "+strings.Repeat("get 3 3; ", deep-1)+"print; halt", tell(nest(deep-1, num(-7), gets)))
	wantIns(t, "num -7; "+strings.Repeat("num 8; sub; ", deep-1)+"print; halt", tell(nest(deep-1, num(-7), left)))
	wantIns(t, strings.Repeat("num 8; ", deep-1)+"var 2; "+strings.Repeat("less; ", deep-1)+"set 0; halt", set(0, nest(deep-1, first(1), right)))
	wantIns(t, strings.Repeat("num 8; ", deep-1)+"var 2; "+strings.Repeat("less; ", deep-1)+"var 0; "+strings.Repeat("num 8; sub; ", deep-1)+"put 3 3; halt",
		put(2, nest(deep-1, first(1), right), nest(deep-1, first(0), left)))
	for _, in := range []func(api.Expr) api.Expr{gets, left, right} {
		wantCode(t, "one deeper", api.Program{Vars: abc(), Body: list(tell(nest(deep, num(1), in)))}, api.ErrDeep)
	}
}

// tree: an expression of 2^(deep+1) - 1 parts.
func tree(deep int) api.Expr {
	if deep == 0 {
		return first(1)
	}
	return two(api.EMul, tree(deep-1), tree(deep-1))
}

func treeText(deep int) string {
	if deep == 0 {
		return "var 2; "
	}
	return treeText(deep-1) + treeText(deep-1) + "mul; "
}

// TestGreatest: the greatest programs that code.Check finds nothing in; with one part more they are none.
func TestGreatest(t *testing.T) {
	const most = api.MaxParts
	test := func(want string, body ...api.Stmt) {
		t.Helper()
		wantIns(t, want+"halt", body...)
		wantCode(t, "one more", api.Program{Vars: abc(), Body: append(body, commit())}, api.ErrMany)
	}
	var loops, choices, others string
	for i := range most / 2 {
		loops += fmt.Sprintf("num 1; else %d; jump %d; ", 3*i+3, 3*i)
		choices += fmt.Sprintf("num 1; else %d; jump %d; ", 3*i+3, 3*i+3)
		if i > 0 {
			others += fmt.Sprintf("num 1; else %d; jump %d; ", 3*i+3, 3*i+3)
		}
	}
	test(strings.Repeat("commit; ", most), commits(most)...)
	test(strings.Repeat("read 2; ", most), slices.Repeat(list(read(1)), most)...)
	test(strings.Repeat("num 1; print; ", most/2), slices.Repeat(list(tell(num(1))), most/2)...)
	test(strings.Repeat("num 1; num 2; put 3 3; ", most/3), slices.Repeat(list(put(2, num(1), num(2))), most/3)...)
	test(loops, slices.Repeat(list(while(num(1))), most/2)...)
	test(choices, slices.Repeat(list(either(num(1), nil, nil)), most/2)...)
	test("num 1; else 3; jump 225; "+others, either(num(1), nil, slices.Repeat(list(either(num(1), nil, nil)), most/2-1)))
	test("num 1; else 151; "+strings.Repeat("commit; ", most-2)+"jump 0; ", while(num(1), commits(most-2)...))
	test("num 1; else 77; "+strings.Repeat("commit; ", 74)+"jump 151; "+strings.Repeat("read 0; ", 74), either(num(1), commits(74), slices.Repeat(list(read(0)), 74)))
	test(treeText(5)+treeText(5)+"put 0 2; "+strings.Repeat("commit; ", 23), append(list(put(0, tree(5), tree(5))), commits(23)...)...)
	test(treeText(6)+"set 3; "+strings.Repeat("commit; ", 22), append(list(set(2, tree(6))), commits(22)...)...)
}

// rich: each kind of statements and of expressions, one behind the other and one in another.
func rich() api.Program {
	return api.Program{
		Vars: vars(one("a", 3), one("total", 1), one("zzzzzzzz", 44)),
		Body: list(
			read(1),
			set(0, two(api.EAdd, first(1), num(-7))),
			while(two(api.ELess, first(0), get(2, num(5))),
				put(2, two(api.ESub, first(0), num(1)), two(api.EMul, get(0, first(1)), get(2, get(0, num(2))))),
				either(two(api.ESame, first(2), num(math.MinInt64)),
					list(tell(num(math.MaxInt64)), commit()),
					list(while(num(0)), read(2), either(num(1), nil, list(commit())))),
				commit(),
			),
			either(num(0), list(set(1, num(4))), nil),
			tell(get(0, two(api.EAdd, num(0), first(2)))),
			commit(),
		),
	}
}

func TestRich(t *testing.T) {
	wantList(t, rich(), written(strings.Join([]string{
		"read 3",
		"var 3; num -7; add; set 0",
		"var 0; num 5; get 4 44; less; else 38", // from 5 on
		"var 0; num 1; sub; var 3; get 0 3; num 2; get 0 3; get 4 44; mul; put 4 44", // from 10 on
		"var 4; num -9223372036854775808; same; else 28",                             // from 20 on
		"num 9223372036854775807; print; commit; jump 36",                            // from 24 on
		"num 0; else 31; jump 28; read 4; num 1; else 35; jump 36; commit",           // from 28 on
		"commit; jump 5",                            // from 36 on
		"num 0; else 43; num 4; set 3; jump 43",     // from 38 on
		"num 0; var 4; add; get 0 3; print; commit", // from 43 on
		"halt",
	}, "; ")))
}

// TestNamesDoNotMatter: but the order of the variables does.
func TestNamesDoNotMatter(t *testing.T) {
	p := rich()
	want, _ := compile.Make(p)
	p.Vars = vars(one("x", 3), one("let", 1), one("a", 44))
	wantList(t, p, want)
	p.Vars = vars(one("total", 1), one("a", 3), one("zzzzzzzz", 44))
	if got, code := compile.Make(p); code != 0 || slices.Equal(got, want) {
		t.Errorf("with the first two variables changed about: %v and code %d", got, code)
	}
}

// TestNilIsEmpty: in each place that has a list.
func TestNilIsEmpty(t *testing.T) {
	for _, p := range append(programsOf(3), rich()) {
		want, _ := compile.Make(p)
		wantList(t, withNils(p), want)
		wantList(t, withEmpties(p), want)
	}
	none := []api.Expr{}
	wantIns(t, "read 2; halt", api.Stmt{Op: api.SRead, V: 1, E: api.Expr{L: none}, F: api.Expr{L: none}, Body: list(), Else: list()})
	wantIns(t, "var 3; print; halt", api.Stmt{Op: api.SPrint, E: api.Expr{Op: api.EVar, V: 2, L: none}, F: api.Expr{L: none}, Body: list(), Else: list()})
	wantIns(t, "num 1; else 3; jump 0; halt", api.Stmt{Op: api.SWhile, E: api.Expr{Op: api.ENum, N: 1, L: none}, Body: list(), Else: list()})
	wantCode(t, "an E of no kind", api.Program{Body: list(api.Stmt{Op: api.SPrint, E: api.Expr{L: none}})}, api.ErrKind)
}
