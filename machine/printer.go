package machine

import (
	"slices"

	"overwinter/api"
)

// Printer is what was printed. It outlives the machines that print by it: what one of them prints again, as it began anew, is not printed twice.
type Printer struct {
	printed []int64
	code    int
}

// Put prints a number at the place behind all that was printed; where something was printed it must be that.
func (p *Printer) Put(at, n int64) {
	behind := int64(len(p.printed))
	switch {
	case at == behind:
		p.printed = append(p.printed, n)
	case at < 0 || at > behind || p.printed[at] != n:
		p.code = api.ErrOther
	}
}

// List tells what was printed.
func (p *Printer) List() []int64 {
	return slices.Clone(p.printed)
}

// Code tells whether at some time a number was to be printed where it may not be.
func (p *Printer) Code() int {
	return p.code
}
