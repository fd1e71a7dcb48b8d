package store

import (
	"overwinter/api"
	"overwinter/disk"
)

// commit is a store, and more: the state that it is to have next, and the deeds that bring it there, none of which is done yet.
type commit struct {
	*Store
	next  state
	taken [api.Sectors]bool
	deeds []func()
}

// begin answers a commit without deeds; what the last one leads to is taken, and so are the roots.
func begin(s *Store) *commit {
	c := &commit{Store: s, next: find(s.disk.Sure())}
	for at := range int64(roots) {
		c.take(at)
	}
	for _, at := range c.next.table {
		c.take(at)
	}
	for _, at := range c.next.pages {
		c.take(at)
	}
	c.next.gen++
	return c
}

func (c *commit) take(at int64) {
	if disk.Has(int(at)) {
		c.taken[at] = true
	}
}

// lay plans to write words to a sector to which nothing leads yet, and tells which one.
func (c *commit) lay(w api.Words) int64 {
	// There always is one: what was committed last, and what is being committed, have each at most a half of all sectors but the roots.
	at := first(func(at int64) bool { return !c.taken[at] })
	c.take(at)
	c.write(at, w)
	return at
}

// first looks for the first sector that is as it is asked for; none, if no one is so.
func first(is func(at int64) bool) int64 {
	for at := range int64(api.Sectors) {
		if is(at) {
			return at
		}
	}
	return none
}

func (c *commit) write(at int64, w api.Words) {
	c.deeds = append(c.deeds, func() { c.disk.Write(int(at), w) })
}

func (c *commit) flush() {
	c.deeds = append(c.deeds, func() { c.disk.Flush() })
}

// do does the first ones of the deeds, as many as it may; below 0: all. Were all done?
func (c *commit) do(may int) bool {
	done := may < 0 || may >= len(c.deeds)
	if done {
		may = len(c.deeds)
	}
	for _, deed := range c.deeds[:may] {
		deed()
	}
	return done
}
