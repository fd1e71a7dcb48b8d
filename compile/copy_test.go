package compile_test

import (
	"math"
	"reflect"
	"slices"
	"testing"

	"overwinter/api"
	"overwinter/compile"
)

// copier makes lists anew, each in a way of its own.
type copier struct {
	vars  func([]api.Var) []api.Var
	stmts func([]api.Stmt) []api.Stmt
	exprs func([]api.Expr) []api.Expr
}

func (c copier) program(p api.Program) api.Program {
	return api.Program{Vars: c.vars(p.Vars), Body: c.body(p.Body)}
}

func (c copier) body(l []api.Stmt) []api.Stmt {
	out := c.stmts(l)
	for i := range out {
		s := &out[i]
		s.E.L, s.F.L = c.parts(s.E.L), c.parts(s.F.L)
		s.Body, s.Else = c.body(s.Body), c.body(s.Else)
	}
	return out
}

func (c copier) parts(l []api.Expr) []api.Expr {
	out := c.exprs(l)
	for i := range out {
		out[i].L = c.parts(out[i].L)
	}
	return out
}

func empties[T any](l []T) []T { return append(make([]T, 0, len(l)), l...) }
func nils[T any](l []T) []T    { return append([]T(nil), l...) }
func toCap[T any](l []T) []T   { return nils(l[:cap(l)]) }

// backed: behind the length stand these, too.
func backed[T any](behind ...T) func([]T) []T {
	return func(l []T) []T {
		return append(empties(l), behind...)[:len(l)]
	}
}

// withNils: a copy in which a list without elements is nil.
func withNils(p api.Program) api.Program {
	return copier{nils, nils, nils}.program(p)
}

// withEmpties: a copy in which it is empty.
func withEmpties(p api.Program) api.Program {
	return copier{empties, empties, empties}.program(p)
}

// withMore: a copy that has something behind the length of each list.
func withMore(p api.Program, mark int) api.Program {
	e := api.Expr{Op: mark, N: int64(mark)}
	s := api.Stmt{Op: mark, E: e, F: e}
	return copier{
		backed(one("behind", mark), one("", -mark)),
		backed(s, s, api.Stmt{}),
		backed(e, e, api.Expr{}),
	}.program(p)
}

// whole: what stands in the memory of a program's lists, behind their lengths, too.
func whole(p api.Program) api.Program {
	return copier{toCap, toCap, toCap}.program(p)
}

// TestLeavesAll: nothing is changed, and what lies behind a list's length is as if it were not there.
func TestLeavesAll(t *testing.T) {
	all := append(programsOf(3), rich())
	for _, bad := range wrongs() {
		if !bad.endless {
			all = append(all, bad.p)
		}
	}
	for i, p := range all {
		want, code := compile.Make(p)
		for _, mark := range []int{0, 1, api.SCommit, 99} {
			q := withMore(p, mark)
			before := whole(q)
			if got, c := compile.Make(q); c != code || !slices.Equal(got, want) {
				t.Errorf("program %d, and %d behind: %v %d, want %v %d", i, mark, got, c, want, code)
			}
			if !reflect.DeepEqual(whole(q), before) {
				t.Errorf("program %d, and %d behind: it was changed", i, mark)
			}
		}
	}
}

// TestKeepsNothing: a program that is changed behind a call changes nothing that was answered, and is another one for the next call.
func TestKeepsNothing(t *testing.T) {
	p := api.Program{Vars: abc(), Body: list(read(1), tell(get(2, num(1))), while(num(1), commit()))}
	was := written("read 2; num 1; get 3 3; print; num 1; else 8; commit; jump 4; halt")
	got, _ := compile.Make(p)
	p.Vars[0].Size, p.Vars[2].Size = 1, 7
	p.Body[0], p.Body[1].E.L[0], p.Body[2].Body[0] = commit(), num(math.MinInt64), read(2)
	if !slices.Equal(got, was) {
		t.Errorf("behind a change of the program: %v, was %v", got, was)
	}
	wantList(t, p, written("commit; num -9223372036854775808; get 2 7; print; num 1; else 8; read 2; jump 4; halt"))
}

// TestTwoCalls: they tell the same, in memory of their own.
func TestTwoCalls(t *testing.T) {
	for _, p := range append(programsOf(3), rich(), api.Program{}, api.Program{Body: commits(api.MaxParts)}) {
		a, _ := compile.Make(p)
		b, _ := compile.Make(p)
		if !slices.Equal(a, b) {
			t.Errorf("%v: %v, then %v", p, a, b)
		}
		want := slices.Clone(b)
		for i := range a[:cap(a)] {
			a[:cap(a)][i] = compile.Ins{Op: -1, A: -1, B: -1, N: -1}
		}
		if !slices.Equal(b, want) {
			t.Errorf("%v: a change of the first answer made the second one %v, want %v", p, b, want)
		}
		wantList(t, p, want)
	}
}

// TestAskedAgain: the answer hangs on the program alone, whatever was asked between.
func TestAskedAgain(t *testing.T) {
	all := append(programsOf(2), rich())
	for _, bad := range wrongs() {
		all = append(all, bad.p)
	}
	for i, p := range all {
		want, code := compile.Make(p)
		for j, other := range all {
			compile.Make(other)
			if got, c := compile.Make(p); c != code || !slices.Equal(got, want) {
				t.Errorf("program %d behind %d: %v %d, want %v %d", i, j, got, c, want, code)
			}
		}
	}
}

// TestListsThatShare: one list in several places is told in each of them.
func TestListsThatShare(t *testing.T) {
	l := []api.Expr{num(1), first(2)}
	body := list(read(1), commit())
	e := api.Expr{Op: api.ELess, L: l}
	wantIns(t, "num 1; var 3; less; num 1; var 3; less; put 0 2; "+
		"num 1; var 3; less; get 0 2; else 15; read 2; commit; jump 16; read 2; "+
		"num 1; var 3; less; else 22; commit; jump 16; halt",
		put(0, e, e), either(get(0, e), body, body[:1]), while(e, body[1:]...))
}
