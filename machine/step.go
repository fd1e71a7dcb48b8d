package machine

import (
	"overwinter/api"
	"overwinter/compile"
)

// do does what an instruction does, but for going on to the one behind it.
func (m *Machine) do(x compile.Ins) {
	switch x.Op {
	case compile.INum:
		m.push(x.N)
	case compile.IVar:
		m.push(m.cell(x.A))
	case compile.IGet:
		m.getCell(x)
	case compile.IAdd, compile.ISub, compile.IMul, compile.ILess, compile.ISame:
		b, a := m.pop(), m.pop()
		m.push(reckon(x.Op, a, b))
	case compile.ISet:
		m.setCell(x.A, m.pop())
	case compile.IPut:
		m.putCell(x)
	case compile.IPrint:
		m.print(m.pop())
	case compile.IRead:
		m.read(x.A)
	case compile.IElse:
		if m.pop() == 0 {
			m.jump(x.A)
		}
	case compile.IJump:
		m.jump(x.A)
	case compile.ICommit:
		m.torn = !m.Sync(m.deeds())
	case compile.IHalt:
		m.Put(stateAt, ended)
	}
}

func (m *Machine) push(n int64) {
	height := m.Load(heightAt)
	m.Put(stackAt+int(height), n)
	m.Put(heightAt, height+1)
}

func (m *Machine) pop() int64 {
	height := m.Load(heightAt) - 1
	m.Put(heightAt, height)
	return m.Load(stackAt + int(height))
}

func (m *Machine) cell(at int) int64 {
	return m.Load(cellsAt + at)
}

func (m *Machine) setCell(at int, n int64) {
	m.Put(cellsAt+at, n)
}

func (m *Machine) jump(to int) {
	m.Put(nextAt, int64(to))
}

func (m *Machine) stop(code int) {
	m.Put(stateAt, int64(stopped+code))
}

// reckon tells what comes of two numbers, of which a came onto the stack first.
func reckon(op int, a, b int64) int64 {
	switch op {
	case compile.IAdd:
		return a + b
	case compile.ISub:
		return a - b
	case compile.IMul:
		return a * b
	case compile.ILess:
		return truth(a < b)
	}
	return truth(a == b)
}

func truth(is bool) int64 {
	if is {
		return 1
	}
	return 0
}

// says tells whether a number says one of the cells of an instruction.
func says(x compile.Ins, n int64) bool {
	return n >= 0 && n < int64(x.B)
}

func (m *Machine) getCell(x compile.Ins) {
	n := m.pop()
	if !says(x, n) {
		m.stop(api.ErrIndex)
		return
	}
	m.push(m.cell(x.A + int(n)))
}

func (m *Machine) putCell(x compile.Ins) {
	w, n := m.pop(), m.pop()
	if !says(x, n) {
		m.stop(api.ErrIndex)
		return
	}
	m.setCell(x.A+int(n), w)
}

func (m *Machine) print(n int64) {
	at := m.Load(printedAt)
	m.printer.Put(at, n)
	m.Put(printedAt, at+1)
}

func (m *Machine) read(cell int) {
	at := m.Load(readAt)
	if at < 0 || at >= int64(len(m.input)) {
		m.stop(api.ErrInput)
		return
	}
	m.setCell(cell, m.input[at])
	m.Put(readAt, at+1)
}

// deeds tells how many the next commit may do; below 0: all, be they as many as they are.
func (m *Machine) deeds() int {
	if m.tear <= 0 {
		return -1
	}
	// Not below 0, which would leave out none.
	return max(len(m.Dirty())+besidePages-m.tear, 0)
}
