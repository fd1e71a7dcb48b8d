package render_test

import (
	"math"
	"reflect"
	"strings"
	"testing"
	"unsafe"

	"overwinter/api"
	"overwinter/render"
)

// copier makes lists anew, each in a way of its own.
type copier struct {
	vars  func([]api.Var) []api.Var
	stmts func([]api.Stmt) []api.Stmt
	exprs func([]api.Expr) []api.Expr
}

func (c copier) program(p api.Program) api.Program {
	return api.Program{Vars: c.vars(p.Vars), Body: c.body(p.Body)}
}

func (c copier) body(l []api.Stmt) []api.Stmt {
	out := c.stmts(l)
	for i := range out {
		s := &out[i]
		s.E.L, s.F.L = c.parts(s.E.L), c.parts(s.F.L)
		s.Body, s.Else = c.body(s.Body), c.body(s.Else)
	}
	return out
}

func (c copier) parts(l []api.Expr) []api.Expr {
	out := c.exprs(l)
	for i := range out {
		out[i].L = c.parts(out[i].L)
	}
	return out
}

func empties[T any](l []T) []T { return append(make([]T, 0, len(l)), l...) }
func nils[T any](l []T) []T    { return append([]T(nil), l...) }
func toCap[T any](l []T) []T   { return nils(l[:cap(l)]) }

// backed: behind the length stand these, too.
func backed[T any](behind ...T) func([]T) []T {
	return func(l []T) []T {
		return append(empties(l), behind...)[:len(l)]
	}
}

// withNils: a copy in which a list without elements is nil.
func withNils(p api.Program) api.Program {
	return copier{nils, nils, nils}.program(p)
}

// withEmpties: a copy in which it is empty.
func withEmpties(p api.Program) api.Program {
	return copier{empties, empties, empties}.program(p)
}

// withMore: a copy that has something behind the length of each list.
func withMore(p api.Program, mark int) api.Program {
	e := api.Expr{Op: mark, N: int64(mark)}
	s := api.Stmt{Op: mark, E: e, F: e}
	return copier{
		backed(one("behind", mark), one("", -mark)),
		backed(s, s, api.Stmt{}),
		backed(e, e, api.Expr{}),
	}.program(p)
}

// whole: what stands in the memory of a program's lists, behind their lengths, too.
func whole(p api.Program) api.Program {
	return copier{toCap, toCap, toCap}.program(p)
}

// TestLeavesAll: nothing is changed, and what lies behind a list's length is as if it were not there.
func TestLeavesAll(t *testing.T) {
	all := append(programs(), rich())
	for _, bad := range wrongs() {
		if !bad.endless {
			all = append(all, bad.p)
		}
	}
	for i, p := range all {
		want, f := render.Print(p)
		for _, mark := range []int{0, 1, api.SCommit, 99} {
			q := withMore(p, mark)
			before := whole(q)
			if got, g := render.Print(q); got != want || f != g {
				t.Errorf("program %d, and %d behind: %s %v, want %s %v", i, mark, short(got), g, short(want), f)
			}
			if !reflect.DeepEqual(whole(q), before) {
				t.Errorf("program %d, and %d behind: it was changed", i, mark)
			}
		}
	}
}

// TestKeepsNothing: neither lists nor names of a program are kept in its text, nor from call to call.
func TestKeepsNothing(t *testing.T) {
	name := []byte("abcdefgh")
	p := api.Program{Vars: vars(one(unsafe.String(&name[0], len(name)), 1)), Body: list(read(0), tell(get(0, num(1))))}
	got, _ := render.Print(p)
	want := strings.Clone(got)
	copy(name, "zzzzzzzz")
	p.Body[0], p.Body[1].E.L[0] = commit(), num(math.MinInt64)
	if got != want || want != "let abcdefgh 1\n(read abcdefgh)\n(print (get abcdefgh (num 1)))\n" {
		t.Errorf("behind a change of the program: %q, was %q", got, want)
	}
	wantText(t, p, "let zzzzzzzz 1\n(commit)\n(print (get zzzzzzzz (num -9223372036854775808)))\n")
}

// TestAskedAgain: the answer hangs on the program alone, whatever was asked between.
func TestAskedAgain(t *testing.T) {
	all := append(programs()[:20], rich())
	for _, bad := range wrongs() {
		all = append(all, bad.p)
	}
	for i, p := range all {
		want, f := render.Print(p)
		for j, other := range all {
			render.Print(other)
			if got, g := render.Print(p); got != want || f != g {
				t.Errorf("program %d behind %d: %s %v, want %s %v", i, j, short(got), g, short(want), f)
			}
		}
	}
}

// TestListsThatShare: one list in several places is written in each of them.
func TestListsThatShare(t *testing.T) {
	l := []api.Expr{num(1), first(0)}
	body := list(read(1), commit())
	e := api.Expr{Op: api.ELess, L: l}
	wantLines(t, list(put(0, e, e), either(get(0, e), body, body[:1]), while(e, body[1:]...)),
		"(put a (less (num 1) (var a)) (less (num 1) (var a)))",
		"(if (get a (less (num 1) (var a))) ((read b) (commit)) ((read b)))",
		"(while (less (num 1) (var a)) ((commit)))")
}
