// Package disk: sectors of words, and writes that wait until they are made sure of. See doc/01-disk.md.
package disk

import (
	"slices"

	"overwinter/api"
)

// maskBits: so many numbers of writes a mask tells apart; behind them they begin anew.
const maskBits = 64

// Disk is what its sectors hold, and the writes that a crash may still lose.
type Disk struct {
	sure  [api.Sectors]api.Words
	waits []write
}

type write struct {
	at    int
	words api.Words
}

// New answers a disk that holds noughts, and for which nothing waits.
func New() *Disk {
	return &Disk{}
}

// Has tells whether there is such a sector.
func Has(at int) bool {
	return at >= 0 && at < api.Sectors
}

// Write lets one more wait, behind all others; false: there is no such sector.
func (d *Disk) Write(at int, w api.Words) bool {
	if !Has(at) {
		return false
	}
	d.waits = append(d.waits, write{at: at, words: w})
	return true
}

// Read tells what a sector will hold if all that wait are made sure of; no words: there is no such sector.
func (d *Disk) Read(at int) api.Words {
	if !Has(at) {
		return api.Words{}
	}
	last, ok := d.last(func(w write) bool { return w.at == at })
	if !ok {
		return d.sure[at]
	}
	return last.words
}

// Flush makes sure of all that wait.
func (d *Disk) Flush() {
	d.settle(func(int) bool { return true })
}

// Crash makes sure of those that wait of whose number the mask has the bit; the others are lost.
func (d *Disk) Crash(mask uint64) {
	d.settle(func(number int) bool { return mask>>(number%maskBits)&1 == 1 })
}

// Wait tells how many wait.
func (d *Disk) Wait() int {
	return len(d.waits)
}

// Sure tells what all sectors hold.
func (d *Disk) Sure() []api.Words {
	return slices.Clone(d.sure[:])
}

// last looks from behind, as a later write hides those ahead of it.
func (d *Disk) last(is func(write) bool) (write, bool) {
	for i := len(d.waits) - 1; i >= 0; i-- {
		if is(d.waits[i]) {
			return d.waits[i], true
		}
	}
	return write{}, false
}

// settle ends all waiting: a write either stays, by its number, or is lost.
func (d *Disk) settle(stays func(number int) bool) {
	for number, w := range d.waits {
		if stays(number) {
			d.sure[w.at] = w.words
		}
	}
	// nil, not cut to none: what is settled is not to be kept in the list's memory.
	d.waits = nil
}
