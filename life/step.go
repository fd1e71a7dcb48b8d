package life

import (
	"overwinter/api"
	"overwinter/machine"
	"overwinter/memory"
	"overwinter/store"
)

// Do does a step, and tells how many instructions that were; or a code, and then nothing is done.
func (x *Life) Do(s api.Step) (int, int) {
	if c := check(s); c != 0 {
		return 0, c
	}
	switch s.Kind {
	case api.LRun:
		return x.run(s.N), 0
	case api.LTear:
		return x.tear(s), 0
	}
	x.crash(s.Mask)
	return 0, 0
}

// check tells the code of a step that can't be done. What its kind does not need may be anything.
func check(s api.Step) int {
	switch {
	case s.Kind != api.LRun && s.Kind != api.LCrash && s.Kind != api.LTear:
		return api.ErrKind
	case s.Kind != api.LCrash && (s.N < 0 || s.N > api.MaxFuel):
		return api.ErrRange
	case s.Kind == api.LTear && s.K < 0:
		return api.ErrRange
	}
	return 0
}

func (x *Life) run(most int) int {
	for n := range most {
		if !x.Step() {
			return n
		}
	}
	return most
}

func (x *Life) tear(s api.Step) int {
	for n := range s.N {
		if x.Commits() {
			// Not earlier: where no commit comes, those of later steps are to be whole.
			x.Tear(s.K)
			x.Step()
			x.crash(s.Mask)
			return n + 1
		}
		if !x.Step() {
			return n
		}
	}
	return s.N
}

func (x *Life) crash(mask uint64) {
	x.disk.Crash(mask)
	x.wake()
}

// wake lets it have another machine, which knows no more than what is opened of the disk.
func (x *Life) wake() {
	x.Machine = machine.New(memory.New(store.Open(x.disk)), x.code, x.input, x.printer)
}
