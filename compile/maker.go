package compile

import (
	"overwinter/api"
	"overwinter/code"
)

// list is made instruction by instruction.
type list struct {
	all []Ins
}

// add tells where the instruction stands.
func (l *list) add(x Ins) int {
	at := l.next()
	l.all = append(l.all, x)
	return at
}

func (l *list) next() int {
	return len(l.all)
}

// lead lets the jump that stands there lead to what is added next: where that is, is not known when the jump is added.
func (l *list) lead(jump int) {
	l.all[jump].A = l.next()
}

// maker is a list, and more: it knows where the cells of the variables are. It is given nothing but what code.Check found to be a program.
type maker struct {
	list
	program api.Program
}

func (m *maker) stmts(l []api.Stmt) {
	for _, s := range l {
		m.stmt(s)
	}
}

func (m *maker) stmt(s api.Stmt) {
	begin := m.next()
	if e, _, _, _, _ := code.Has(s.Op); e {
		m.expr(s.E)
	}
	switch s.Op {
	case api.SSet:
		m.add(Ins{Op: ISet, A: m.cell(s.V)})
	case api.SPut:
		m.expr(s.F)
		m.add(Ins{Op: IPut, A: m.cell(s.V), B: m.size(s.V)})
	case api.SPrint:
		m.add(Ins{Op: IPrint})
	case api.SRead:
		m.add(Ins{Op: IRead, A: m.cell(s.V)})
	case api.SWhile:
		m.loop(begin, s.Body)
	case api.SIf:
		m.choice(s.Body, s.Else)
	case api.SCommit:
		m.add(Ins{Op: ICommit})
	}
}

// loop is what stands behind the E of a SWhile that begins there.
func (m *maker) loop(begin int, body []api.Stmt) {
	out := m.add(Ins{Op: IElse})
	m.stmts(body)
	m.add(Ins{Op: IJump, A: begin})
	m.lead(out)
}

// choice is what stands behind the E of a SIf.
func (m *maker) choice(body, other []api.Stmt) {
	past := m.add(Ins{Op: IElse})
	m.stmts(body)
	out := m.add(Ins{Op: IJump})
	m.lead(past)
	m.stmts(other)
	m.lead(out)
}

func (m *maker) expr(e api.Expr) {
	for _, x := range e.L {
		m.expr(x)
	}
	x := Ins{Op: e.Op, N: e.N}
	switch e.Op {
	case api.EVar:
		x.A = m.cell(e.V)
	case api.EGet:
		x.A, x.B = m.cell(e.V), m.size(e.V)
	}
	m.add(x)
}

func (m *maker) cell(v int) int {
	return code.Cell(m.program, v)
}

func (m *maker) size(v int) int {
	return m.program.Vars[v].Size
}
