package parse

import (
	"slices"

	"overwinter/api"
	"overwinter/code"
	"overwinter/token"
)

// reader goes from token to token. Each of its methods takes what it reads, or gives up.
type reader struct {
	left []token.Token
	end  int // the text's length
	vars []api.Var
}

// gaveUp is what a reader panics with: so nothing that it reads need be asked whether it was there.
type gaveUp struct{ fault api.Fault }

func giveUp(c, at int) {
	panic(gaveUp{api.Fault{Code: c, At: at}})
}

// read tells the program that tokens are, whether it holds to code.Check or not.
func read(l []token.Token, end int) (p api.Program, f api.Fault) {
	defer func() {
		if x := recover(); x != nil {
			f = x.(gaveUp).fault // nothing else panics here: a fault of the reader itself is not to be hidden
		}
	}()
	r := &reader{left: l, end: end}
	return r.program(), api.Fault{}
}

func (r *reader) program() api.Program {
	for r.stands("let") {
		r.let()
	}
	body := r.stmts(0, func() bool { return len(r.left) == 0 })
	return api.Program{Vars: r.vars, Body: body}
}

func (r *reader) let() {
	r.text("let")
	name := r.take(isName)
	size := r.take(isNumber)
	x := api.Var{Name: name.Text}
	if size.N >= 1 && size.N <= api.MaxCells {
		x.Size = int(size.N)
	}
	r.vars = append(r.vars, x)
}

// stmts is handed where they are over: at the end of the text or at a bracket.
func (r *reader) stmts(deep int, over func() bool) []api.Stmt {
	var l []api.Stmt
	for !over() {
		l = append(l, r.stmt(deep))
	}
	return l
}

func (r *reader) list(deep int) []api.Stmt {
	r.text("(")
	l := r.stmts(deep, func() bool { return r.stands(")") })
	r.text(")")
	return l
}

func (r *reader) stmt(deep int) api.Stmt {
	s := api.Stmt{Op: r.begin(deep, Verb)}
	e, f, v, body, other := code.Has(s.Op)
	if v {
		s.V = r.variable()
	}
	if e {
		s.E = r.expr(deep + 1)
	}
	if f {
		s.F = r.expr(deep + 1)
	}
	if body {
		s.Body = r.list(deep + 1)
	}
	if other {
		s.Else = r.list(deep + 1)
	}
	r.text(")")
	return s
}

func (r *reader) expr(deep int) api.Expr {
	e := api.Expr{Op: r.begin(deep, Word)}
	switch e.Op {
	case api.ENum:
		e.N = r.take(isNumber).N
	case api.EVar, api.EGet:
		e.V = r.variable()
	}
	for range code.Parts(e.Op) {
		e.L = append(e.L, r.expr(deep+1))
	}
	r.text(")")
	return e
}

// begin reads the bracket and the kind of what stands in so many others. That it may not stand there is told whatever its bracket is.
func (r *reader) begin(deep int, written func(op int) string) int {
	if deep > api.MaxDeep {
		giveUp(api.ErrDeep, r.at())
	}
	r.text("(")
	op := 0
	r.take(func(x token.Token) bool {
		op = kind(x.Text, written)
		return op > 0
	})
	return op
}

// kind tells which kind is written so; 0: none is. The kinds are numbered one behind the other, from 1 on.
func kind(s string, written func(op int) string) int {
	for op := 1; written(op) != ""; op++ {
		if written(op) == s {
			return op
		}
	}
	return 0
}

func (r *reader) variable() int {
	x := r.take(isName)
	v := slices.IndexFunc(r.vars, func(y api.Var) bool { return y.Name == x.Text })
	if v < 0 {
		giveUp(api.ErrNone, x.At)
	}
	return v
}

func (r *reader) text(s string) {
	r.take(func(x token.Token) bool { return x.Text == s })
}

// take reads the next token, which must be what it is handed to look for.
func (r *reader) take(fits func(token.Token) bool) token.Token {
	if len(r.left) == 0 {
		giveUp(api.ErrShort, r.at())
	}
	x := r.left[0]
	if !fits(x) {
		giveUp(api.ErrForm, x.At)
	}
	r.left = r.left[1:]
	return x
}

// at tells where the next token stands, or should stand.
func (r *reader) at() int {
	if len(r.left) == 0 {
		return r.end
	}
	return r.left[0].At
}

func (r *reader) stands(s string) bool {
	return len(r.left) > 0 && r.left[0].Text == s
}

func isName(x token.Token) bool   { return code.Name(x.Text) }
func isNumber(x token.Token) bool { return x.Num }
