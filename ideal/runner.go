package ideal

import (
	"overwinter/api"
	"overwinter/code"
)

// gaveUp is what a runner panics with: so nothing that stands around what can't be done need be asked whether it goes on.
type gaveUp struct{ code int }

func giveUp(c int) {
	panic(gaveUp{c})
}

// meter counts instructions.
type meter struct {
	took, fuel int
}

// count comes ahead of what an instruction does: without fuel it is not done, and one that can't be done took its fuel, too.
func (m *meter) count() {
	if m.took == m.fuel {
		giveUp(api.ErrFuel)
	}
	m.took++
}

// runner is a meter, and more: what the statements change, and what they ask for. It is given nothing but what code.Check found to be a program.
type runner struct {
	meter
	program api.Program
	unread  []int64 // of the input
	cells   []int64
	printed []int64
}

// run tells the code with which the program stopped; 0: it came to its end.
func (r *runner) run() (c int) {
	defer func() {
		if x := recover(); x != nil {
			c = x.(gaveUp).code // nothing else panics here: a fault of the runner itself is not to be hidden
		}
	}()
	r.stmts(r.program.Body)
	r.count() // the end
	return 0
}

func (r *runner) stmts(l []api.Stmt) {
	for _, s := range l {
		for r.again(s) {
		}
	}
}

// again does a statement, and tells whether it is to be done once more: a SWhile whose body was done.
func (r *runner) again(s api.Stmt) bool {
	e, f := r.asked(s)
	r.count()
	switch s.Op {
	case api.SSet:
		*r.cell(s.V, 0) = e
	case api.SPut:
		*r.cell(s.V, e) = f
	case api.SPrint:
		r.printed = append(r.printed, e)
	case api.SRead:
		*r.cell(s.V, 0) = r.read()
	case api.SWhile:
		return r.chosen(e, s.Body)
	case api.SIf:
		if !r.chosen(e, s.Body) {
			r.stmts(s.Else)
		}
	}
	// Nothing is to be done for a SCommit: here nothing is ever lost.
	return false
}

// asked tells what the expressions of a statement say; 0: its kind has none.
func (r *runner) asked(s api.Stmt) (e, f int64) {
	hasE, hasF, _, _, _ := code.Has(s.Op)
	if hasE {
		e = r.expr(s.E)
	}
	if hasF {
		f = r.expr(s.F)
	}
	return e, f
}

// chosen does a Body, if the number says so, and tells whether it did: that takes one instruction more, behind it.
func (r *runner) chosen(e int64, body []api.Stmt) bool {
	if e == 0 {
		return false
	}
	r.stmts(body)
	r.count()
	return true
}

func (r *runner) expr(e api.Expr) int64 {
	var parts [2]int64 // no kind has more
	for i, x := range e.L {
		parts[i] = r.expr(x)
	}
	r.count()
	a, b := parts[0], parts[1]
	switch e.Op {
	case api.ENum:
		return e.N
	case api.EVar:
		return *r.cell(e.V, 0)
	case api.EGet:
		return *r.cell(e.V, a)
	case api.EAdd:
		return a + b
	case api.ESub:
		return a - b
	case api.EMul:
		return a * b
	case api.ELess:
		return truth(a < b)
	}
	return truth(a == b)
}

func truth(is bool) int64 {
	if is {
		return 1
	}
	return 0
}

// cell answers the cell of a variable that a number says, from 0 on.
func (r *runner) cell(v int, n int64) *int64 {
	if n < 0 || n >= int64(r.program.Vars[v].Size) {
		giveUp(api.ErrIndex)
	}
	return &r.cells[code.Cell(r.program, v)+int(n)]
}

func (r *runner) read() int64 {
	if len(r.unread) == 0 {
		giveUp(api.ErrInput)
	}
	n := r.unread[0]
	r.unread = r.unread[1:]
	return n
}
