package code_test

import (
	"overwinter/api"
)

// item: a statement or an expression of a program, where it stands in its memory.
type item struct {
	s    *api.Stmt
	e    *api.Expr
	deep int
}

// items: all statements and expressions that the kinds have, in the order of the document.
func items(p *api.Program) []item {
	return stmtItems(p.Body, 0)
}

func stmtItems(l []api.Stmt, deep int) []item {
	var out []item
	for i := range l {
		s := &l[i]
		out = append(out, item{s: s, deep: deep})
		switch s.Op {
		case api.SPut:
			out = append(out, exprItems(&s.E, deep+1)...)
			out = append(out, exprItems(&s.F, deep+1)...)
		case api.SSet, api.SPrint, api.SWhile, api.SIf:
			out = append(out, exprItems(&s.E, deep+1)...)
		}
		out = append(out, stmtItems(s.Body, deep+1)...)
		out = append(out, stmtItems(s.Else, deep+1)...)
	}
	return out
}

func exprItems(e *api.Expr, deep int) []item {
	out := []item{{e: e, deep: deep}}
	for i := range e.L {
		out = append(out, exprItems(&e.L[i], deep+1)...)
	}
	return out
}

// hasVar: has the kind of the item a variable?
func (x item) hasVar() bool {
	if x.s != nil {
		return x.s.Op == api.SSet || x.s.Op == api.SPut || x.s.Op == api.SRead
	}
	return x.e.Op == api.EVar || x.e.Op == api.EGet
}

// copier makes lists anew, each in a way of its own.
type copier struct {
	vars  func([]api.Var) []api.Var
	stmts func([]api.Stmt) []api.Stmt
	exprs func([]api.Expr) []api.Expr
}

func (c copier) program(p api.Program) api.Program {
	return api.Program{Vars: c.vars(p.Vars), Body: c.body(p.Body)}
}

func (c copier) body(l []api.Stmt) []api.Stmt {
	out := c.stmts(l)
	for i := range out {
		s := &out[i]
		s.E.L, s.F.L = c.parts(s.E.L), c.parts(s.F.L)
		s.Body, s.Else = c.body(s.Body), c.body(s.Else)
	}
	return out
}

func (c copier) parts(l []api.Expr) []api.Expr {
	out := c.exprs(l)
	for i := range out {
		out[i].L = c.parts(out[i].L)
	}
	return out
}

func empties[T any](l []T) []T { return append(make([]T, 0, len(l)), l...) }
func nils[T any](l []T) []T    { return append([]T(nil), l...) }

// backed: behind the length stand these, too.
func backed[T any](behind ...T) func([]T) []T {
	return func(l []T) []T {
		return append(empties(l), behind...)[:len(l)]
	}
}

// withNils: a copy in which a list without elements is nil.
func withNils(p api.Program) api.Program {
	return copier{nils, nils, nils}.program(p)
}

// withEmpties: a copy in which it is empty.
func withEmpties(p api.Program) api.Program {
	return copier{empties, empties, empties}.program(p)
}

// withMore: a copy that has something behind the length of each list.
func withMore(p api.Program, mark int) api.Program {
	e := api.Expr{Op: mark, V: mark, N: int64(mark)}
	s := api.Stmt{Op: mark, V: mark, E: e, F: e}
	return copier{
		backed(api.Var{Name: "A", Size: mark}, api.Var{Name: "", Size: -mark}),
		backed(s, s, api.Stmt{}),
		backed(e, e, api.Expr{}),
	}.program(p)
}

// whole: what stands in the memory of a program's lists, behind their lengths, too.
func whole(p api.Program) api.Program {
	return copier{toCap, toCap, toCap}.program(p)
}

func toCap[T any](l []T) []T { return nils(l[:cap(l)]) }
