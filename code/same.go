package code

import (
	"slices"

	"overwinter/api"
)

// twins are two lists, of one length, that have to be the same.
type twins[T any] struct {
	a, b []T
}

// place tells twins from others.
type place[T any] struct {
	a, b *T
	size int
}

// pairs are twins that wait to be held against each other, and the places of all that ever waited.
type pairs[T any] struct {
	waits []twins[T]
	met   map[place[T]]struct{}
}

// Same tells whether two programs are the same. What is no program may stand deeper than calls can stand in one another, or hold itself: so lists wait for each other, and none does so twice.
func Same(a, b api.Program) bool {
	stmts := pairs[api.Stmt]{met: map[place[api.Stmt]]struct{}{}}
	exprs := pairs[api.Expr]{met: map[place[api.Expr]]struct{}{}}
	sameExpr := func(x, y api.Expr) bool {
		return x.Op == y.Op && x.V == y.V && x.N == y.N && exprs.add(x.L, y.L)
	}
	sameStmt := func(x, y api.Stmt) bool {
		return x.Op == y.Op && x.V == y.V && sameExpr(x.E, y.E) && sameExpr(x.F, y.F) && stmts.add(x.Body, y.Body) && stmts.add(x.Else, y.Else)
	}
	return slices.Equal(a.Vars, b.Vars) && stmts.add(a.Body, b.Body) && stmts.all(sameStmt) && exprs.all(sameExpr)
}

// add lets two lists wait, unless they did so ahead; false: they can not be the same.
func (p *pairs[T]) add(a, b []T) bool {
	if len(a) != len(b) {
		return false
	}
	if len(a) == 0 {
		return true
	}
	at := place[T]{a: &a[0], b: &b[0], size: len(a)}
	if _, ok := p.met[at]; !ok {
		p.met[at] = struct{}{}
		p.waits = append(p.waits, twins[T]{a: a, b: b})
	}
	return true
}

// all holds those that wait against each other, and those that come to wait by that.
func (p *pairs[T]) all(same func(x, y T) bool) bool {
	for len(p.waits) > 0 {
		last := len(p.waits) - 1
		l := p.waits[last]
		p.waits = p.waits[:last]
		if !slices.EqualFunc(l.a, l.b, same) {
			return false
		}
	}
	return true
}
