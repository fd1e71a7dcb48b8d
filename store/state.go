package store

import (
	"overwinter/api"
	"overwinter/disk"
)

// roots: the first sectors are written in turns, one at each commit; the root of the greatest gen is the one that leads.
const roots = 2

// none leads nowhere: the sector of that number is a root, and to a root nothing leads.
const none = 0

// state is what a root leads to: the sectors of its table, and by these the sectors of its pages.
type state struct {
	gen   int64
	table [api.TableSize]int64
	pages [api.MaxPages]int64
}

// find reads what was committed last from what all sectors hold for sure: a root that only waits has committed nothing yet.
func find(sure []api.Words) state {
	var last api.Words
	for _, root := range sure[:roots] {
		if root[0] > last[0] {
			last = root
		}
	}
	s := state{gen: last[0]}
	copy(s.table[:], last[1:])
	for part, at := range s.table {
		w := held(sure, at)
		copy(s.pages[part*api.Sector:], w[:])
	}
	return s
}

// held reads a sector that is led to. A disk on which others wrote may lead anywhere.
func held(sure []api.Words, at int64) api.Words {
	if at == none || !disk.Has(int(at)) {
		return api.Words{}
	}
	return sure[at]
}

// rootAt tells the sector of the root.
func (s *state) rootAt() int64 {
	return s.gen % roots
}

// rootWords tells the words of the root.
func (s *state) rootWords() api.Words {
	w := api.Words{s.gen}
	copy(w[1:], s.table[:])
	return w
}

// partWords tells the words of one sector of the table.
func (s *state) partWords(part int) api.Words {
	var w api.Words
	copy(w[:], s.pages[part*api.Sector:])
	return w
}
