package store_test

import (
	"math"
	"slices"
	"testing"

	"overwinter/api"
	"overwinter/disk"
	"overwinter/store"
)

const (
	first   = 0
	final   = api.MaxPages - 1
	allBits = math.MaxUint64
)

// wrong: numbers of no page, those next to the edges first.
var wrong = []int{-1, api.MaxPages, api.MaxPages + 1, -2, 16, 34, -api.MaxPages, 1 << 32, -1 << 32, math.MaxInt, math.MinInt}

// model: what a store is to tell.
type model struct {
	gen   int64
	pages [api.MaxPages]api.Words
}

// with: what it is to tell behind a commit of a list.
func (m model) with(l []store.Page) model {
	m.gen++
	for _, p := range l {
		m.pages[p.N] = p.W
	}
	return m
}

func told(s *store.Store) model {
	m := model{gen: s.Gen()}
	for n := range m.pages {
		m.pages[n] = s.Read(n)
	}
	return m
}

func wantTold(t *testing.T, s *store.Store, want model) {
	t.Helper()
	if got := told(s); got != want {
		t.Fatalf("told: %v, want %v", got, want)
	}
}

// page: words of which each one is another, none of them 0.
func page(n int, mark int64) store.Page {
	p := store.Page{N: n}
	for i := range p.W {
		p.W[i] = mark*1000 + int64(n)*10 + int64(i) + 1
	}
	return p
}

func pages(mark int64, numbers ...int) []store.Page {
	var l []store.Page
	for _, n := range numbers {
		l = append(l, page(n, mark))
	}
	return l
}

func allPages(mark int64) []store.Page {
	var l []store.Page
	for n := range api.MaxPages {
		l = append(l, page(n, mark))
	}
	return l
}

// deedsOf: how many deeds a commit of a list has.
func deedsOf(l []store.Page) int {
	return len(l) + api.TableSize + 3
}

func mustCommit(t *testing.T, s *store.Store, l []store.Page) {
	t.Helper()
	if done, code := s.Commit(l, -1); !done || code != 0 {
		t.Fatalf("Commit: %v %d, want true 0", done, code)
	}
}

// histories: lists that were committed one behind the other, ahead of what is tested.
func histories() map[string][][]store.Page {
	return map[string][][]store.Page{
		"none":           nil,
		"empty":          {nil},
		"one":            {pages(1, 3)},
		"edges":          {pages(1, first), pages(2, final)},
		"all":            {allPages(1)},
		"all again":      {allPages(1), allPages(2)},
		"all and a half": {allPages(1), pages(2, 1, 3, 5, 7, 9, 11, 13), pages(3, 0, 2, 4)},
		"one by one":     {pages(1, 0), pages(2, 1), pages(3, 2), pages(4, 1), pages(5, 13)},
	}
}

// lists: what is then committed.
func lists() map[string][]store.Page {
	return map[string][]store.Page{
		"none":     nil,
		"one":      pages(9, 3),
		"first":    pages(9, first),
		"final":    pages(9, final),
		"several":  pages(9, 13, 7, 8, 0),
		"all":      allPages(9),
		"noughts":  {{N: 3}, {N: 1}},
		"the same": pages(1, 3),
	}
}

// lived: a disk on which these lists were committed, and what is told of it.
func lived(t *testing.T, history [][]store.Page) (*disk.Disk, model) {
	t.Helper()
	d := disk.New()
	s := store.Open(d)
	var m model
	for _, l := range history {
		mustCommit(t, s, l)
		m = m.with(l)
	}
	return d, m
}

func TestHas(t *testing.T) {
	for n := range api.MaxPages {
		if !store.Has(n) {
			t.Errorf("Has(%d): false, want true", n)
		}
	}
	for _, n := range wrong {
		if store.Has(n) {
			t.Errorf("Has(%d): true, want false", n)
		}
	}
}

func TestCheck(t *testing.T) {
	long := append(allPages(1), allPages(1)...)
	for name, c := range map[string]struct {
		l    []store.Page
		want int
	}{
		"nil":                      {nil, 0},
		"empty":                    {[]store.Page{}, 0},
		"one":                      {pages(1, 5), 0},
		"edges":                    {pages(1, final, first), 0},
		"all":                      {allPages(1), 0},
		"twice side by side":       {pages(1, 5, 5), api.ErrTwice},
		"twice far apart":          {pages(1, 5, 6, 7, 5), api.ErrTwice},
		"first twice":              {pages(1, first, first), api.ErrTwice},
		"final twice":              {pages(1, final, final), api.ErrTwice},
		"twice with other words":   {[]store.Page{page(5, 1), page(5, 2)}, api.ErrTwice},
		"all twice":                {long, api.ErrTwice},
		"range ahead of twice":     {pages(1, 5, 14, 5), api.ErrRange},
		"twice ahead of range":     {pages(1, 5, 5, 14), api.ErrTwice},
		"twice, then below":        {pages(1, 0, 0, -1), api.ErrTwice},
		"below, then twice":        {pages(1, -1, 0, 0), api.ErrRange},
		"a wrong one twice":        {pages(1, 14, 14), api.ErrRange},
		"a wrong one below, twice": {pages(1, 2, -1, -1), api.ErrRange},
		"all and a wrong one":      {append(allPages(1), page(api.MaxPages, 1)), api.ErrRange},
	} {
		before := slices.Clone(c.l)
		if got := store.Check(c.l); got != c.want {
			t.Errorf("%s: %d, want %d", name, got, c.want)
		}
		if !slices.Equal(before, c.l) {
			t.Errorf("%s: the list was changed", name)
		}
	}
	for _, n := range wrong {
		if got := store.Check(pages(1, n)); got != api.ErrRange {
			t.Errorf("Check of page %d: %d, want ErrRange", n, got)
		}
	}
}

func TestNewDiskHasNoughts(t *testing.T) {
	d := disk.New()
	wantTold(t, store.Open(d), model{})
	if d.Wait() != 0 || !slices.Equal(d.Sure(), disk.New().Sure()) {
		t.Error("Open, Gen and Read did something to the disk")
	}
}

func TestReadOfNoPage(t *testing.T) {
	d, _ := lived(t, [][]store.Page{allPages(1), allPages(2)})
	s := store.Open(d)
	for _, n := range wrong {
		if got := s.Read(n); got != (api.Words{}) {
			t.Errorf("Read(%d): %v, want no words", n, got)
		}
	}
}

func TestCommit(t *testing.T) {
	for name, history := range histories() {
		for what, l := range lists() {
			t.Run(name+"/"+what, func(t *testing.T) {
				d, m := lived(t, history)
				s := store.Open(d)
				wantTold(t, s, m)
				mustCommit(t, s, l)
				wantTold(t, s, m.with(l))
				if d.Wait() != 0 {
					t.Errorf("Wait: %d, want 0", d.Wait())
				}
				wantTold(t, store.Open(d), m.with(l))
				for _, mask := range []uint64{0, 1, allBits} {
					d.Crash(mask)
					wantTold(t, store.Open(d), m.with(l))
				}
			})
		}
	}
}

func TestCommitsBehindEachOther(t *testing.T) {
	d := disk.New()
	s := store.Open(d)
	var m model
	for round := range int64(20) {
		for _, l := range [][]store.Page{nil, pages(round, int(round)%api.MaxPages), pages(-round, 4, 0, 9), allPages(round)} {
			mustCommit(t, s, l)
			m = m.with(l)
			wantTold(t, s, m)
			wantTold(t, store.Open(d), m)
		}
	}
	if s.Gen() != 80 {
		t.Errorf("Gen: %d, want 80", s.Gen())
	}
}

func TestWordsOfAllSizes(t *testing.T) {
	d := disk.New()
	w := api.Words{math.MaxInt64, math.MinInt64, -1, 0, 1, 1 << 40, -1 << 40, 33}
	mustCommit(t, store.Open(d), []store.Page{{N: 6, W: w}})
	if got := store.Open(d).Read(6); got != w {
		t.Errorf("Read: %v, want %v", got, w)
	}
}

// TestDeeds: each deed by what it does to those that wait: writes are one more, a flush leaves none.
func TestDeeds(t *testing.T) {
	for name, history := range histories() {
		for what, l := range lists() {
			for deeds := range deedsOf(l) + 2 {
				d, _ := lived(t, history)
				done, code := store.Open(d).Commit(l, deeds)
				if done != (deeds >= deedsOf(l)) || code != 0 {
					t.Errorf("%s, %s, %d deeds: %v %d", name, what, deeds, done, code)
				}
				want := deeds
				if deeds > len(l)+api.TableSize {
					want = 0
				}
				if deeds == deedsOf(l)-1 {
					want = 1
				}
				if d.Wait() != want {
					t.Errorf("%s, %s, %d deeds: %d wait, want %d", name, what, deeds, d.Wait(), want)
				}
			}
		}
	}
}

// TestFirstDeedsArePages: the words of the pages are written in the order of the list, ahead of the table.
func TestFirstDeedsArePages(t *testing.T) {
	l := pages(9, 13, 7, 8, 0)
	for i, p := range l {
		d, _ := lived(t, [][]store.Page{allPages(1)})
		before := d.Sure()
		store.Open(d).Commit(l, i+1)
		d.Crash(1 << i)
		var other []api.Words
		for at, w := range d.Sure() {
			if w != before[at] {
				other = append(other, w)
			}
		}
		if !slices.Equal(other, []api.Words{p.W}) {
			t.Errorf("deed %d wrote %v, want %v", i, other, p.W)
		}
	}
}

func TestDeedsAtTheirEdges(t *testing.T) {
	l := pages(9, 2, 11)
	for deeds, want := range map[int]bool{
		math.MinInt: true, -1 << 32: true, -2: true, -1: true,
		0: false, 1: false, deedsOf(l) - 1: false,
		deedsOf(l): true, deedsOf(l) + 1: true, 64: true, 1 << 32: true, math.MaxInt: true,
	} {
		d, m := lived(t, [][]store.Page{allPages(1)})
		s := store.Open(d)
		done, code := s.Commit(l, deeds)
		if done != want || code != 0 {
			t.Errorf("%d deeds: %v %d, want %v 0", deeds, done, code, want)
		}
		d.Crash(0)
		if want {
			m = m.with(l)
			wantTold(t, s, m)
		}
		wantTold(t, store.Open(d), m)
	}
}

// masks: nothing stays, all stays, and each single write that a commit may let wait.
func masks() []uint64 {
	l := []uint64{0, allBits, 0x5555555555555555, 0xaaaaaaaaaaaaaaaa}
	for bit := range api.MaxPages + api.TableSize + 1 {
		l = append(l, 1<<bit, ^(uint64(1) << bit))
	}
	return l
}

// TestAllOrNothing: a commit that is left off behind each number of its deeds, and crashed.
func TestAllOrNothing(t *testing.T) {
	for name, history := range histories() {
		for what, l := range lists() {
			t.Run(name+"/"+what, func(t *testing.T) {
				for deeds := range deedsOf(l) + 2 {
					for _, mask := range masks() {
						tear(t, history, l, deeds, mask)
					}
				}
			})
		}
	}
}

// tear leaves one commit off, crashes, and looks for what is to be told, behind a second crash and a commit, too.
func tear(t *testing.T, history [][]store.Page, l []store.Page, deeds int, mask uint64) {
	t.Helper()
	d, m := lived(t, history)
	store.Open(d).Commit(l, deeds)
	rootWaits := deeds == deedsOf(l)-1
	d.Crash(mask)
	if deeds >= deedsOf(l) || rootWaits && mask&1 == 1 {
		m = m.with(l)
	}
	wantTold(t, store.Open(d), m)
	for _, again := range []uint64{0, allBits} {
		d.Crash(again)
		wantTold(t, store.Open(d), m)
	}
	next := pages(77, 3, 12)
	mustCommit(t, store.Open(d), next)
	wantTold(t, store.Open(d), m.with(next))
}

// TestTornOnTorn: a commit that was torn leaves a second one no way to what was committed last.
func TestTornOnTorn(t *testing.T) {
	l, next := allPages(8), allPages(9)
	for _, history := range histories() {
		for deeds := range deedsOf(l) + 1 {
			for _, mask := range []uint64{0, 1, allBits} {
				for second := range deedsOf(next) + 1 {
					d, m := lived(t, history)
					store.Open(d).Commit(l, deeds)
					d.Crash(mask)
					if deeds >= deedsOf(l) || deeds == deedsOf(l)-1 && mask&1 == 1 {
						m = m.with(l)
					}
					store.Open(d).Commit(next, second)
					d.Crash(mask)
					if second >= deedsOf(next) || second == deedsOf(next)-1 && mask&1 == 1 {
						m = m.with(next)
					}
					wantTold(t, store.Open(d), m)
				}
			}
		}
	}
}

// numbers: the same ones in each run.
type numbers uint64

func (r *numbers) below(n int) int {
	*r = *r*6364136223846793005 + 1442695040888963407
	return int(uint64(*r)>>33) % n
}

func (r *numbers) list(mark int64) []store.Page {
	var l []store.Page
	n := r.below(api.MaxPages)
	for range r.below(api.MaxPages + 1) {
		l = append(l, page(n, mark))
		n = (n + 3) % api.MaxPages // 3 and MaxPages have no divisor in common: none stands twice
	}
	return l
}

// TestLongLives: many commits, some of them left off and crashed.
func TestLongLives(t *testing.T) {
	for life := range 60 {
		r := numbers(life)
		d := disk.New()
		s := store.Open(d)
		var m model
		for round := range int64(120) {
			l := r.list(round + 1)
			deeds := r.below(deedsOf(l)+4) - 1
			mask := uint64(r.below(1<<31))<<1 | uint64(r.below(2))
			done, code := s.Commit(l, deeds)
			if code != 0 || done != (deeds < 0 || deeds >= deedsOf(l)) {
				t.Fatalf("life %d, round %d: %v %d", life, round, done, code)
			}
			if done || deeds == deedsOf(l)-1 && mask&1 == 1 {
				m = m.with(l)
			}
			if !done || r.below(4) == 0 {
				d.Crash(mask)
				s = store.Open(d)
			}
			wantTold(t, s, m)
		}
	}
}

// TestNotDoneIsNotCommitted: as long as its root only waits, a commit is none.
func TestNotDoneIsNotCommitted(t *testing.T) {
	l := pages(9, 3, 4)
	for deeds := range deedsOf(l) {
		d, m := lived(t, [][]store.Page{allPages(1)})
		store.Open(d).Commit(l, deeds)
		wantTold(t, store.Open(d), m)
	}
}

func TestWrongListsDoNothing(t *testing.T) {
	for _, history := range histories() {
		for name, c := range map[string]struct {
			l    []store.Page
			want int
		}{
			"below":          {pages(9, 3, -1), api.ErrRange},
			"behind":         {pages(9, 3, api.MaxPages), api.ErrRange},
			"least":          {pages(9, math.MinInt), api.ErrRange},
			"greatest":       {pages(9, math.MaxInt), api.ErrRange},
			"twice":          {pages(9, 3, 4, 3), api.ErrTwice},
			"range first":    {pages(9, 14, 3, 3), api.ErrRange},
			"twice first":    {pages(9, 3, 3, 14), api.ErrTwice},
			"all, one twice": {append(allPages(9), page(first, 8)), api.ErrTwice},
		} {
			for _, deeds := range []int{math.MinInt, -1, 0, 1, 5, 6, 7, math.MaxInt} {
				d, m := lived(t, history)
				s := store.Open(d)
				before := d.Sure()
				if done, code := s.Commit(c.l, deeds); done || code != c.want {
					t.Errorf("%s, %d deeds: %v %d, want false %d", name, deeds, done, code, c.want)
				}
				if d.Wait() != 0 || !slices.Equal(before, d.Sure()) {
					t.Errorf("%s, %d deeds: something was done to the disk", name, deeds)
				}
				wantTold(t, s, m)
				wantTold(t, store.Open(d), m)
				mustCommit(t, s, pages(5, 3))
				wantTold(t, s, m.with(pages(5, 3)))
			}
		}
	}
}

func TestListIsNeitherChangedNorKept(t *testing.T) {
	whole := pages(9, 3, 5, 14, 3)
	before := slices.Clone(whole)
	l := whole[:2] // what lies behind it would be refused
	d := disk.New()
	s := store.Open(d)
	mustCommit(t, s, l)
	if !slices.Equal(whole, before) {
		t.Errorf("the list was changed: %v, want %v", whole, before)
	}
	want := model{}.with(before[:2])
	for i := range whole {
		whole[i] = page(7, -1)
	}
	wantTold(t, s, want)
	wantTold(t, store.Open(d), want)
}

func TestListOfLeftOffCommitIsNotKept(t *testing.T) {
	l := pages(9, 3, 5)
	d := disk.New()
	store.Open(d).Commit(l, deedsOf(l)-1)
	want := model{}.with(l)
	for i := range l {
		l[i] = page(7, -1)
	}
	d.Crash(allBits)
	wantTold(t, store.Open(d), want)
}

func TestTwoDisks(t *testing.T) {
	a, b := disk.New(), disk.New()
	s, u := store.Open(a), store.Open(b)
	mustCommit(t, s, pages(1, 3, 4))
	wantTold(t, u, model{})
	mustCommit(t, u, pages(2, 4, 5))
	mustCommit(t, u, pages(3, 5))
	wantTold(t, s, model{}.with(pages(1, 3, 4)))
	wantTold(t, u, model{}.with(pages(2, 4, 5)).with(pages(3, 5)))
	u.Commit(allPages(7), 4)
	b.Crash(allBits)
	wantTold(t, s, model{}.with(pages(1, 3, 4)))
	wantTold(t, store.Open(a), model{}.with(pages(1, 3, 4)))
	wantTold(t, store.Open(b), model{}.with(pages(2, 4, 5)).with(pages(3, 5)))
}

// TestTwoStoresOnOneDisk: what was committed last is so for both.
func TestTwoStoresOnOneDisk(t *testing.T) {
	d := disk.New()
	s, u := store.Open(d), store.Open(d)
	var m model
	for round := range int64(10) {
		for _, one := range []*store.Store{s, u} {
			l := pages(round, int(round), 13)
			mustCommit(t, one, l)
			m = m.with(l)
			wantTold(t, s, m)
			wantTold(t, u, m)
		}
	}
}

// TestSameCallsSameDisk: what is done hangs on what was asked, and on nothing else.
func TestSameCallsSameDisk(t *testing.T) {
	for _, history := range histories() {
		a, _ := lived(t, history)
		b, _ := lived(t, history)
		if !slices.Equal(a.Sure(), b.Sure()) {
			t.Error("the same commits left two disks that differ")
		}
	}
}

// TestAnyDisk: on a disk on which others wrote nothing is promised, but that no call panics.
func TestAnyDisk(t *testing.T) {
	for life := range 200 {
		r := numbers(life)
		d := disk.New()
		for at := range api.Sectors {
			var w api.Words
			for i := range w {
				w[i] = []int64{0, 1, -1, 33, 34, int64(r.below(40)), math.MaxInt64, math.MinInt64}[r.below(8)]
			}
			d.Write(at, w)
		}
		if life%2 == 0 {
			d.Flush()
		}
		s := store.Open(d)
		told(s)
		for _, deeds := range []int{-1, 3, 18, 19} {
			s.Commit(allPages(1), deeds)
			told(s)
		}
	}
}
