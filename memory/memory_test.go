package memory_test

import (
	"fmt"
	"math"
	"slices"
	"testing"

	"overwinter/api"
	"overwinter/disk"
	"overwinter/memory"
	"overwinter/store"
)

const (
	final   = memory.Size - 1
	allBits = math.MaxUint64
)

// wrong: numbers of no word, those next to the edges first.
var wrong = []int{-1, memory.Size, memory.Size + 1, -2, -api.Sector, -memory.Size, 2 * memory.Size, 128, 1 << 32, -1 << 32, math.MaxInt, math.MinInt}

// put: a word for a place.
type put struct {
	at int
	w  int64
}

// model: what a memory, and its store, are to tell.
type model struct {
	words     [memory.Size]int64
	changed   [api.MaxPages]bool
	committed [memory.Size]int64
	gen       int64
}

func (m model) with(l []put) model {
	for _, p := range l {
		if m.words[p.at] != p.w {
			m.changed[p.at/api.Sector] = true
		}
		m.words[p.at] = p.w
	}
	return m
}

// synced: behind a Sync that was done.
func (m model) synced() model {
	m.changed = [api.MaxPages]bool{}
	m.committed = m.words
	m.gen++
	return m
}

// anew: what a memory has that is made on what was committed last.
func (m model) anew() model {
	m.changed = [api.MaxPages]bool{}
	m.words = m.committed
	return m
}

func wordsOf(all [memory.Size]int64, n int) api.Words {
	return api.Words(all[n*api.Sector : (n+1)*api.Sector])
}

func (m model) dirty() []store.Page {
	var l []store.Page
	for n, changed := range m.changed {
		if changed {
			l = append(l, store.Page{N: n, W: wordsOf(m.words, n)})
		}
	}
	return l
}

// deeds: how many a Sync has.
func (m model) deeds() int {
	return len(m.dirty()) + api.TableSize + 3
}

// wantTold: all that a memory tells, and its store by it.
func wantTold(t *testing.T, got *memory.Memory, want model) {
	t.Helper()
	wantWords(t, got, want)
	if got.Gen() != want.gen {
		t.Fatalf("Gen: %d, want %d", got.Gen(), want.gen)
	}
	for n := range api.MaxPages {
		if got.Read(n) != wordsOf(want.committed, n) {
			t.Fatalf("Read(%d): %v, want %v", n, got.Read(n), wordsOf(want.committed, n))
		}
	}
}

// wantWords: all that a memory tells of itself.
func wantWords(t *testing.T, got *memory.Memory, want model) {
	t.Helper()
	if all := got.All(); !slices.Equal(all, want.words[:]) {
		t.Fatalf("All: %v, want %v", all, want.words)
	}
	for at, w := range want.words {
		if got.Load(at) != w {
			t.Fatalf("Load(%d): %d, want %d", at, got.Load(at), w)
		}
	}
	if l := got.Dirty(); !slices.Equal(l, want.dirty()) {
		t.Fatalf("Dirty: %v, want %v", l, want.dirty())
	}
}

func mustPut(t *testing.T, m *memory.Memory, l []put) {
	t.Helper()
	for _, p := range l {
		if !m.Put(p.at, p.w) {
			t.Fatalf("Put(%d, %d): false, want true", p.at, p.w)
		}
	}
}

func mustSync(t *testing.T, m *memory.Memory) {
	t.Helper()
	if !m.Sync(-1) {
		t.Fatal("Sync(-1): false, want true")
	}
}

// every: one word of each page, or of each word, from a first one on.
func every(from, by int, mark int64) []put {
	var l []put
	for at := from; at < memory.Size; at += by {
		l = append(l, put{at, mark*1000 + int64(at) + 1})
	}
	return l
}

// histories: what was put between Syncs, ahead of what is tested.
func histories() map[string][][]put {
	return map[string][][]put{
		"none":     nil,
		"nothing":  {nil},
		"one":      {{{9, 5}}},
		"edges":    {{{0, 1}, {final, 2}}},
		"several":  {{{3, 1}, {4, 2}, {40, 3}}, {{3, 4}, {111, 5}}, nil, {{50, 6}}},
		"all":      {every(0, 1, 1)},
		"all anew": {every(0, 1, 1), every(0, 1, 2), every(5, api.Sector, 3)},
	}
}

// changes: what is then put.
func changes() map[string][]put {
	return map[string][]put{
		"nothing":             nil,
		"as it was":           {{9, 5}, {9, 5}},
		"one":                 {{9, 77}},
		"first word":          {{0, 77}},
		"final word":          {{final, 77}},
		"first of a page":     {{16, 77}},
		"final of a page":     {{15, 77}},
		"two on one page":     {{17, 77}, {22, 78}},
		"two side by side":    {{15, 77}, {16, 78}},
		"several, from back":  {{104, 77}, {8, 78}, {50, 79}, {9, 80}, {103, 81}},
		"another, and back":   {{9, 77}, {9, 5}, {20, 77}, {20, 0}},
		"one of each page":    every(3, api.Sector, 9),
		"all":                 every(0, 1, 9),
		"noughts":             {{9, 0}, {3, 0}, {111, 0}},
		"as small, as great":  {{9, math.MinInt64}, {10, math.MaxInt64}, {30, -1}, {31, 1 << 40}},
		"several at one word": {{9, 77}, {9, 78}, {9, 79}},
	}
}

// lived: a disk with a memory in which these were put, with a Sync behind each.
func lived(t *testing.T, history [][]put) (*disk.Disk, *memory.Memory, model) {
	t.Helper()
	d := disk.New()
	m := memory.New(store.Open(d))
	var want model
	for _, l := range history {
		mustPut(t, m, l)
		mustSync(t, m)
		want = want.with(l).synced()
	}
	return d, m, want
}

// each runs a test on each change behind each history.
func each(t *testing.T, test func(t *testing.T, history [][]put, l []put)) {
	for name, history := range histories() {
		for what, l := range changes() {
			t.Run(name+"/"+what, func(t *testing.T) { test(t, history, l) })
		}
	}
}

func TestSize(t *testing.T) {
	if memory.Size != api.MaxPages*api.Sector {
		t.Errorf("Size: %d, want %d", memory.Size, api.MaxPages*api.Sector)
	}
}

func TestNewIsNoughts(t *testing.T) {
	d := disk.New()
	wantTold(t, memory.New(store.Open(d)), model{})
	if d.Wait() != 0 || !slices.Equal(d.Sure(), disk.New().Sure()) {
		t.Error("New, Load, Dirty and All did something to the disk")
	}
}

// TestNewHasPages: word by word, of pages that a store committed.
func TestNewHasPages(t *testing.T) {
	s := store.Open(disk.New())
	var want model
	var l []store.Page
	for _, p := range every(0, 1, 4) {
		want.committed[p.at] = p.w
	}
	for n := range api.MaxPages {
		l = append(l, store.Page{N: n, W: wordsOf(want.committed, n)})
	}
	s.Commit(l, -1)
	want.gen = 1
	wantTold(t, memory.New(s), want.anew())
}

// TestStoreIsTheOneGiven: it is embedded, and its calls are those of the memory, too.
func TestStoreIsTheOneGiven(t *testing.T) {
	s := store.Open(disk.New())
	m := memory.New(s)
	if m.Store != s {
		t.Error("the store of the memory is not the one that it was made on")
	}
	mustPut(t, m, []put{{9, 5}})
	mustSync(t, m)
	if s.Gen() != 1 || s.Read(1) != (api.Words{0, 5}) {
		t.Errorf("the store tells %d %v behind a Sync", s.Gen(), s.Read(1))
	}
}

func TestPut(t *testing.T) {
	each(t, func(t *testing.T, history [][]put, l []put) {
		d, m, want := lived(t, history)
		before := d.Sure()
		wantTold(t, m, want)
		for _, p := range l {
			mustPut(t, m, []put{p})
			want = want.with([]put{p})
			wantTold(t, m, want)
		}
		if d.Wait() != 0 || !slices.Equal(before, d.Sure()) {
			t.Error("Put did something to the disk")
		}
	})
}

// TestDirty: the pages written out, not reckoned.
func TestDirty(t *testing.T) {
	type pages = []store.Page
	for name, c := range map[string]struct {
		l    []put
		want pages
	}{
		"none":                {nil, nil},
		"nought on nought":    {[]put{{0, 0}, {final, 0}}, nil},
		"one":                 {[]put{{9, 5}}, pages{{N: 1, W: api.Words{0, 5}}}},
		"one, and the same":   {[]put{{9, 5}, {9, 5}}, pages{{N: 1, W: api.Words{0, 5}}}},
		"two on one page":     {[]put{{9, 5}, {15, 6}}, pages{{N: 1, W: api.Words{0, 5, 0, 0, 0, 0, 0, 6}}}},
		"two pages, from end": {[]put{{111, 6}, {0, 5}}, pages{{N: 0, W: api.Words{5}}, {N: 13, W: api.Words{0, 0, 0, 0, 0, 0, 0, 6}}}},
		"at a page's edges":   {[]put{{8, 2}, {7, 1}}, pages{{N: 0, W: api.Words{0, 0, 0, 0, 0, 0, 0, 1}}, {N: 1, W: api.Words{2}}}},
		"another, and back":   {[]put{{9, 5}, {9, 0}}, pages{{N: 1}}},
		"as it is last":       {[]put{{9, 5}, {9, 6}, {9, 7}}, pages{{N: 1, W: api.Words{0, 7}}}},
	} {
		m := memory.New(store.Open(disk.New()))
		mustPut(t, m, c.l)
		if got := m.Dirty(); !slices.Equal(got, c.want) {
			t.Errorf("%s: %v, want %v", name, got, c.want)
		}
		if code := store.Check(m.Dirty()); code != 0 {
			t.Errorf("%s: Check: %d, want 0", name, code)
		}
	}
}

// TestDirtyIsOfPuts: what a store held ahead of New is not dirty, and is not made so by a Put of just that.
func TestDirtyIsOfPuts(t *testing.T) {
	d, _, want := lived(t, [][]put{every(0, 1, 1)})
	m := memory.New(store.Open(d))
	for at, w := range want.words {
		mustPut(t, m, []put{{at, w}})
	}
	wantTold(t, m, want)
}

func TestWrongWords(t *testing.T) {
	each(t, func(t *testing.T, history [][]put, l []put) {
		_, m, want := lived(t, history)
		mustPut(t, m, l)
		want = want.with(l)
		for _, at := range wrong {
			for _, w := range []int64{0, 1, -1, 77, math.MaxInt64, math.MinInt64} {
				if m.Put(at, w) {
					t.Errorf("Put(%d, %d): true, want false", at, w)
				}
				if got := m.Load(at); got != 0 {
					t.Errorf("Load(%d): %d, want 0", at, got)
				}
			}
			wantTold(t, m, want)
		}
	})
}

func TestSync(t *testing.T) {
	each(t, func(t *testing.T, history [][]put, l []put) {
		d, m, want := lived(t, history)
		mustPut(t, m, l)
		mustSync(t, m)
		want = want.with(l).synced()
		wantTold(t, m, want)
		if d.Wait() != 0 {
			t.Errorf("Wait: %d, want 0", d.Wait())
		}
		wantTold(t, memory.New(store.Open(d)), want)
		for _, mask := range []uint64{0, 1, allBits} {
			d.Crash(mask)
			wantTold(t, memory.New(store.Open(d)), want)
		}
		mustSync(t, m)
		want = want.synced()
		wantTold(t, m, want)
	})
}

// TestNotSyncedIsLost: what was only put is none of the store's.
func TestNotSyncedIsLost(t *testing.T) {
	each(t, func(t *testing.T, history [][]put, l []put) {
		d, m, want := lived(t, history)
		mustPut(t, m, l)
		wantTold(t, memory.New(store.Open(d)), want)
		d.Crash(allBits)
		wantTold(t, memory.New(store.Open(d)), want)
		wantTold(t, m, want.with(l))
	})
}

// TestPutBehindSync: only what is put from then on is dirty, a word that goes back to what it was ahead of the Sync, too.
func TestPutBehindSync(t *testing.T) {
	each(t, func(t *testing.T, history [][]put, l []put) {
		d, m, want := lived(t, history)
		mustPut(t, m, l)
		mustSync(t, m)
		want = want.with(l).synced()
		for _, next := range [][]put{{{9, 5}}, {{9, 0}, {9, 5}}, {{final, -1}, {0, -1}}, l} {
			mustPut(t, m, next)
			want = want.with(next)
			wantTold(t, m, want)
			mustSync(t, m)
			want = want.synced()
			wantTold(t, m, want)
			wantTold(t, memory.New(store.Open(d)), want)
		}
	})
}

// TestSyncWritesDirtyPagesOnly: by those that wait ahead of the first flush.
func TestSyncWritesDirtyPagesOnly(t *testing.T) {
	each(t, func(t *testing.T, history [][]put, l []put) {
		d, m, want := lived(t, history)
		mustPut(t, m, l)
		writes := len(want.with(l).dirty()) + api.TableSize
		m.Sync(writes)
		if d.Wait() != writes {
			t.Errorf("%d wait, want %d", d.Wait(), writes)
		}
	})
}

// TestSyncWritesInDirtysOrder: the writes of a Sync are told apart by a crash that keeps only one of them.
func TestSyncWritesInDirtysOrder(t *testing.T) {
	l := []put{{104, 77}, {8, 78}, {50, 79}, {9, 80}, {103, 81}}
	for i := range 4 {
		d, m, want := lived(t, [][]put{every(0, 1, 1)})
		before := d.Sure()
		mustPut(t, m, l)
		page := want.with(l).dirty()[i]
		m.Sync(i + 1)
		d.Crash(1 << i)
		var other []api.Words
		for at, w := range d.Sure() {
			if w != before[at] {
				other = append(other, w)
			}
		}
		if !slices.Equal(other, []api.Words{page.W}) {
			t.Errorf("deed %d wrote %v, want %v", i, other, page.W)
		}
	}
}

// masks: nothing stays, all stays, and each single write that a Sync may let wait, and some that it may not.
func masks() []uint64 {
	l := []uint64{0, allBits, 1 << 62, 1 << 63}
	for bit := range api.MaxPages + api.TableSize + 1 {
		l = append(l, 1<<bit)
	}
	return l
}

// TestTorn: a Sync that leaves off behind each number of its deeds, and crashes behind it.
func TestTorn(t *testing.T) {
	each(t, func(t *testing.T, history [][]put, l []put) {
		_, _, want := lived(t, history)
		want = want.with(l)
		for deeds := range want.deeds() + 2 {
			for _, mask := range masks() {
				tear(t, history, l, deeds, mask)
			}
		}
	})
}

func tear(t *testing.T, history [][]put, l []put, deeds int, mask uint64) {
	t.Helper()
	d, m, want := lived(t, history)
	mustPut(t, m, l)
	want = want.with(l)
	all := want.deeds()
	if got := m.Sync(deeds); got != (deeds >= all) {
		t.Fatalf("Sync(%d) of %d deeds: %v", deeds, all, got)
	}
	if deeds >= all {
		want = want.synced()
	}
	wantWords(t, m, want)
	d.Crash(mask)
	if deeds == all-1 && mask&1 == 1 {
		want = want.synced()
	}
	woken := memory.New(store.Open(d))
	want = want.anew()
	wantTold(t, woken, want)
	next := []put{{9, -9}, {60, -9}}
	mustPut(t, woken, next)
	mustSync(t, woken)
	wantTold(t, memory.New(store.Open(d)), want.with(next).synced())
}

// TestTornStaysDirty: behind a Sync that was not done Dirty tells what it told, and what is put then.
func TestTornStaysDirty(t *testing.T) {
	each(t, func(t *testing.T, history [][]put, l []put) {
		_, _, first := lived(t, history)
		for deeds := range first.with(l).deeds() {
			_, m, want := lived(t, history)
			mustPut(t, m, l)
			want = want.with(l)
			m.Sync(deeds)
			wantWords(t, m, want)
			next := []put{{33, 8}, {9, 8}}
			mustPut(t, m, next)
			wantWords(t, m, want.with(next))
		}
	})
}

func TestDeedsAtTheirEdges(t *testing.T) {
	for name, l := range changes() {
		_, _, first := lived(t, histories()["several"])
		all := first.with(l).deeds()
		for deeds, done := range map[int]bool{
			math.MinInt: true, -1 << 32: true, -2: true, -1: true,
			0: false, 1: false, all - 1: false,
			all: true, all + 1: true, 64: true, 1 << 32: true, math.MaxInt: true,
		} {
			t.Run(fmt.Sprint(name, deeds), func(t *testing.T) {
				d, m, want := lived(t, histories()["several"])
				mustPut(t, m, l)
				want = want.with(l)
				if got := m.Sync(deeds); got != done {
					t.Fatalf("Sync(%d): %v, want %v", deeds, got, done)
				}
				if done {
					want = want.synced()
				}
				wantWords(t, m, want)
				d.Crash(0)
				wantTold(t, memory.New(store.Open(d)), want.anew())
			})
		}
	}
}

func TestSyncOfNothing(t *testing.T) {
	d, m, want := lived(t, histories()["several"])
	for range 5 {
		mustSync(t, m)
		want = want.synced()
		wantTold(t, m, want)
		wantTold(t, memory.New(store.Open(d)), want)
	}
	if m.Sync(api.TableSize + 2) {
		t.Error("a Sync of nothing was done with one deed less than it has")
	}
	d.Crash(0)
	m = memory.New(store.Open(d))
	if !m.Sync(api.TableSize + 3) {
		t.Error("a Sync of nothing was not done with just its deeds")
	}
	wantTold(t, m, want.synced())
}

func TestListsAreNewMemory(t *testing.T) {
	_, m, want := lived(t, histories()["several"])
	l := []put{{9, 77}, {50, 78}, {51, 79}}
	mustPut(t, m, l)
	want = want.with(l)
	all, again := m.All(), m.All()
	dirty, twice := m.Dirty(), m.Dirty()
	clear(all)
	clear(dirty)
	if !slices.Equal(again, want.words[:]) || !slices.Equal(twice, want.dirty()) {
		t.Error("two answers share memory")
	}
	_ = append(again[:0], 1, 2, 3)
	_ = append(twice[:0], store.Page{N: 9})
	wantTold(t, m, want)
	mustPut(t, m, []put{{10, 4}})
	want = want.with([]put{{10, 4}})
	if all[10] != 0 || again[10] != 0 || dirty[0] != (store.Page{}) {
		t.Error("a Put changed what was answered ahead")
	}
	late := m.Dirty()
	before := slices.Clone(late)
	mustSync(t, m)
	mustPut(t, m, []put{{11, 6}})
	if !slices.Equal(late, before) {
		t.Error("a Sync or a Put changed what Dirty answered ahead")
	}
	wantTold(t, m, want.synced().with([]put{{11, 6}}))
}

func TestTwoMemories(t *testing.T) {
	a, m, want := lived(t, nil)
	b, o, other := lived(t, nil)
	for round := range int64(10) {
		l := []put{{int(round) * 11, round + 1}, {9, round}}
		mustPut(t, m, l)
		want = want.with(l)
		wantTold(t, o, other)
		if round%2 == 0 {
			mustSync(t, m)
			want = want.synced()
		}
		next := []put{{int(round) * 7, -round - 1}}
		mustPut(t, o, next)
		other = other.with(next)
		if round%3 == 0 {
			mustSync(t, o)
			other = other.synced()
		}
		wantTold(t, m, want)
		wantTold(t, o, other)
	}
	mustPut(t, o, []put{{3, 3}})
	o.Sync(1)
	b.Crash(allBits)
	wantTold(t, m, want)
	wantTold(t, memory.New(store.Open(a)), want.anew())
	wantTold(t, memory.New(store.Open(b)), other.anew())
}

// TestSameCallsSameDisk: what is done hangs on what was asked, and on nothing else.
func TestSameCallsSameDisk(t *testing.T) {
	for name, history := range histories() {
		a, _, _ := lived(t, history)
		b, _, _ := lived(t, history)
		if !slices.Equal(a.Sure(), b.Sure()) {
			t.Errorf("%s: the same calls left two disks that differ", name)
		}
	}
}

// numbers: the same ones in each run.
type numbers uint64

func (r *numbers) below(n int) int {
	*r = *r*6364136223846793005 + 1442695040888963407
	return int(uint64(*r)>>33) % n
}

// TestLongLives: many Puts and Syncs, some of them left off and crashed.
func TestLongLives(t *testing.T) {
	for life := range 60 {
		r := numbers(life)
		d, m, want := lived(t, nil)
		for range 100 {
			for range r.below(9) {
				p := put{r.below(memory.Size), int64(r.below(4) - 1)}
				mustPut(t, m, []put{p})
				want = want.with([]put{p})
			}
			all := want.deeds()
			deeds := r.below(all+4) - 1
			mask := uint64(r.below(1<<31))<<1 | uint64(r.below(2))
			done := m.Sync(deeds)
			if done != (deeds < 0 || deeds >= all) {
				t.Fatalf("life %d: Sync(%d) of %d deeds: %v", life, deeds, all, done)
			}
			if done || deeds == all-1 && mask&1 == 1 {
				want = want.synced()
			}
			if !done || r.below(4) == 0 {
				d.Crash(mask)
				m = memory.New(store.Open(d))
				want = want.anew()
			}
			wantTold(t, m, want)
		}
	}
}

// TestAnyDisk: on a disk on which others wrote nothing is promised, but that no call panics.
func TestAnyDisk(t *testing.T) {
	for life := range 200 {
		r := numbers(life)
		d := disk.New()
		for at := range api.Sectors {
			var w api.Words
			for i := range w {
				w[i] = []int64{0, 1, -1, 33, 34, int64(r.below(40)), math.MaxInt64, math.MinInt64}[r.below(8)]
			}
			d.Write(at, w)
		}
		if life%2 == 0 {
			d.Flush()
		}
		m := memory.New(store.Open(d))
		for _, deeds := range []int{-1, 3, 18, math.MaxInt} {
			for _, p := range every(0, 1, int64(deeds)) {
				m.Put(p.at, p.w)
			}
			m.Sync(deeds)
			m.Dirty()
			m.All()
		}
	}
}
