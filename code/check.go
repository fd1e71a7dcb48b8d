package code

import (
	"slices"

	"overwinter/api"
)

// part is what a statement and an expression are looked at for alike.
type part struct {
	deep  int  // it stands in so many others
	known bool // is it of a kind?
	fits  bool // has it nothing, beside a variable, that its kind has not?
	named bool // has its kind a variable?
	v     int
}

// Check tells the code of the first thing that a program may not have; 0: it is a program.
func Check(p api.Program) int {
	if code := checkVars(p.Vars); code != 0 {
		return code
	}
	met := 0
	return lookStmts(p.Body, 0, func(x part) int {
		met++
		switch {
		case x.deep > api.MaxDeep:
			return api.ErrDeep
		case met > api.MaxParts:
			return api.ErrMany
		case !x.known:
			return api.ErrKind
		case !x.fits:
			return api.ErrForm
		case x.named && (x.v < 0 || x.v >= len(p.Vars)):
			return api.ErrRange
		case !x.named && x.v != 0:
			return api.ErrForm
		}
		return 0
	})
}

func checkVars(l []api.Var) int {
	if len(l) > api.MaxVars {
		return api.ErrMany
	}
	left := api.MaxCells // not a sum of sizes: one more of them could go beyond what a number can be
	for i, x := range l {
		switch {
		case !Name(x.Name):
			return api.ErrName
		case slices.ContainsFunc(l[:i], func(ahead api.Var) bool { return ahead.Name == x.Name }):
			return api.ErrTwice
		case x.Size < 1 || x.Size > left:
			return api.ErrRange
		}
		left -= x.Size
	}
	return 0
}

// lookStmts hands each statement, and then all that is in it, to a look, until one tells a code. That a look refuses what stands too deep makes it end, even where a list holds itself.
func lookStmts(l []api.Stmt, deep int, look func(part) int) int {
	for _, s := range l {
		code := look(stmtPart(s, deep))
		if code == 0 {
			code = lookExprs(exprsOf(s), deep+1, look)
		}
		if code == 0 {
			code = lookStmts(s.Body, deep+1, look)
		}
		if code == 0 {
			code = lookStmts(s.Else, deep+1, look)
		}
		if code != 0 {
			return code
		}
	}
	return 0
}

// lookExprs does for expressions what lookStmts does for statements.
func lookExprs(l []api.Expr, deep int, look func(part) int) int {
	for _, e := range l {
		code := look(exprPart(e, deep))
		if code == 0 {
			code = lookExprs(e.L, deep+1, look)
		}
		if code != 0 {
			return code
		}
	}
	return 0
}

// exprsOf tells the expressions that a statement has by its kind: a zero one may stand for none, or be a wrong one.
func exprsOf(s api.Stmt) []api.Expr {
	var l []api.Expr
	e, f, _, _, _ := Has(s.Op)
	if e {
		l = append(l, s.E)
	}
	if f {
		l = append(l, s.F)
	}
	return l
}

func stmtPart(s api.Stmt, deep int) part {
	e, f, v, body, other := Has(s.Op)
	return part{
		deep:  deep,
		known: s.Op >= api.SSet && s.Op <= api.SCommit,
		fits:  (e || isZero(s.E)) && (f || isZero(s.F)) && (body || len(s.Body) == 0) && (other || len(s.Else) == 0),
		named: v,
		v:     s.V,
	}
}

func exprPart(e api.Expr, deep int) part {
	return part{
		deep:  deep,
		known: Parts(e.Op) >= 0,
		fits:  len(e.L) == Parts(e.Op) && (e.Op == api.ENum || e.N == 0),
		named: e.Op == api.EVar || e.Op == api.EGet,
		v:     e.V,
	}
}

// isZero: an expression whose list is empty, not nil, is the zero one, too.
func isZero(e api.Expr) bool {
	return e.Op == 0 && e.V == 0 && e.N == 0 && len(e.L) == 0
}
