package render

import (
	"strconv"
	"strings"

	"overwinter/api"
	"overwinter/code"
	"overwinter/parse"
)

// text is written word by word; brackets are words, too.
type text struct {
	all   strings.Builder
	apart bool // a blank stands ahead of the next word, unless that is a )
}

// words writes as many as there are: where blanks stand between them is said here alone.
func (t *text) words(l ...string) {
	for _, x := range l {
		if t.apart && x != ")" {
			t.all.WriteByte(' ')
		}
		t.all.WriteString(x)
		t.apart = x != "("
	}
}

func (t *text) endLine() {
	t.all.WriteByte('\n')
	t.apart = false
}

// writer is a text, and more: it knows what the variables are called. It is given nothing but what code.Check found to be a program.
type writer struct {
	text
	vars []api.Var
}

func write(p api.Program) string {
	w := &writer{vars: p.Vars}
	for _, x := range p.Vars {
		w.words("let", x.Name, strconv.Itoa(x.Size))
		w.endLine()
	}
	for _, s := range p.Body {
		w.stmt(s)
		w.endLine()
	}
	return w.all.String()
}

func (w *writer) stmt(s api.Stmt) {
	e, f, v, body, other := code.Has(s.Op)
	w.words("(", parse.Verb(s.Op))
	if v {
		w.variable(s.V)
	}
	if e {
		w.expr(s.E)
	}
	if f {
		w.expr(s.F)
	}
	if body {
		w.list(s.Body)
	}
	if other {
		w.list(s.Else)
	}
	w.words(")")
}

func (w *writer) list(l []api.Stmt) {
	w.words("(")
	for _, s := range l {
		w.stmt(s)
	}
	w.words(")")
}

func (w *writer) expr(e api.Expr) {
	w.words("(", parse.Word(e.Op))
	switch e.Op {
	case api.ENum:
		w.words(strconv.FormatInt(e.N, 10))
	case api.EVar, api.EGet:
		w.variable(e.V)
	}
	for _, x := range e.L {
		w.expr(x)
	}
	w.words(")")
}

func (w *writer) variable(v int) {
	w.words(w.vars[v].Name)
}
