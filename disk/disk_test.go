package disk_test

import (
	"math"
	"slices"
	"testing"

	"overwinter/api"
	"overwinter/disk"
)

const (
	first   = 0
	final   = api.Sectors - 1
	allBits = math.MaxUint64
)

// wrong: numbers of no sector, those next to the edges first.
var wrong = []int{-1, api.Sectors, api.Sectors + 1, -2, 64, 99, -api.Sectors, 1 << 32, -1 << 32, math.MaxInt, math.MinInt}

// full: words of which each one is another.
func full(n int64) api.Words {
	var w api.Words
	for i := range w {
		w[i] = n*100 + int64(i) + 1
	}
	return w
}

// holding: what a disk holds of which only these sectors were made sure of.
func holding(sectors map[int]api.Words) []api.Words {
	l := make([]api.Words, api.Sectors)
	for at, w := range sectors {
		l[at] = w
	}
	return l
}

func mustWrite(t *testing.T, d *disk.Disk, at int, w api.Words) {
	t.Helper()
	if !d.Write(at, w) {
		t.Fatalf("Write(%d): false, want true", at)
	}
}

func wantRead(t *testing.T, d *disk.Disk, at int, want api.Words) {
	t.Helper()
	if got := d.Read(at); got != want {
		t.Errorf("Read(%d): %v, want %v", at, got, want)
	}
}

func wantSure(t *testing.T, d *disk.Disk, sectors map[int]api.Words) {
	t.Helper()
	if got, want := d.Sure(), holding(sectors); !slices.Equal(got, want) {
		t.Errorf("Sure: %v, want %v", got, want)
	}
}

func wantWait(t *testing.T, d *disk.Disk, want int) {
	t.Helper()
	if got := d.Wait(); got != want {
		t.Errorf("Wait: %d, want %d", got, want)
	}
}

// wantSettled: nothing waits, and each sector reads as it holds.
func wantSettled(t *testing.T, d *disk.Disk, sectors map[int]api.Words) {
	t.Helper()
	wantWait(t, d, 0)
	wantSure(t, d, sectors)
	for at := range api.Sectors {
		wantRead(t, d, at, sectors[at])
	}
}

func TestHas(t *testing.T) {
	for at := range api.Sectors {
		if !disk.Has(at) {
			t.Errorf("Has(%d): false, want true", at)
		}
	}
	for _, at := range wrong {
		if disk.Has(at) {
			t.Errorf("Has(%d): true, want false", at)
		}
	}
}

func TestNewHoldsNoughts(t *testing.T) {
	d := disk.New()
	if d == nil {
		t.Fatal("New: nil")
	}
	wantSettled(t, d, nil)
}

func TestReadTellsTheLastThatWaits(t *testing.T) {
	d := disk.New()
	mustWrite(t, d, 3, full(1))
	wantRead(t, d, 3, full(1))
	mustWrite(t, d, 4, full(2))
	mustWrite(t, d, 3, full(3))
	mustWrite(t, d, 5, full(4))
	wantRead(t, d, 3, full(3))
	wantRead(t, d, 4, full(2))
	wantRead(t, d, 5, full(4))
	wantRead(t, d, 6, api.Words{})
	wantWait(t, d, 4)
	wantSure(t, d, nil)
}

func TestReadTellsWhatASectorHolds(t *testing.T) {
	d := disk.New()
	mustWrite(t, d, 3, full(1))
	mustWrite(t, d, 4, full(2))
	d.Flush()
	mustWrite(t, d, 4, full(3))
	wantRead(t, d, 3, full(1))
	wantRead(t, d, 4, full(3))
	wantSure(t, d, map[int]api.Words{3: full(1), 4: full(2)})
}

func TestNoughtsThatWaitAreRead(t *testing.T) {
	d := disk.New()
	mustWrite(t, d, 7, full(1))
	d.Flush()
	mustWrite(t, d, 7, api.Words{})
	wantRead(t, d, 7, api.Words{})
	d.Flush()
	wantSettled(t, d, nil)
}

func TestReadSettlesNothing(t *testing.T) {
	d := disk.New()
	mustWrite(t, d, 7, full(1))
	wantRead(t, d, 7, full(1))
	d.Sure()
	wantWait(t, d, 1)
	d.Crash(0)
	wantSettled(t, d, nil)
}

func TestFlushMakesSureOfAllInOrder(t *testing.T) {
	d := disk.New()
	mustWrite(t, d, 3, full(1))
	mustWrite(t, d, 4, full(2))
	mustWrite(t, d, 3, full(3))
	wantWait(t, d, 3)
	wantSure(t, d, nil)
	d.Flush()
	wantSettled(t, d, map[int]api.Words{3: full(3), 4: full(2)})
	d.Flush()
	wantSettled(t, d, map[int]api.Words{3: full(3), 4: full(2)})
	d.Crash(0)
	wantSettled(t, d, map[int]api.Words{3: full(3), 4: full(2)})
}

func TestEverySectorIsItsOwn(t *testing.T) {
	d := disk.New()
	want := map[int]api.Words{}
	for at := range api.Sectors {
		want[at] = full(int64(at))
		mustWrite(t, d, at, want[at])
	}
	wantWait(t, d, api.Sectors)
	for at := range api.Sectors {
		wantRead(t, d, at, want[at])
	}
	d.Flush()
	wantSettled(t, d, want)
}

func TestFirstAndLastSector(t *testing.T) {
	d := disk.New()
	mustWrite(t, d, first, full(1))
	mustWrite(t, d, final, full(2))
	wantRead(t, d, first, full(1))
	wantRead(t, d, final, full(2))
	d.Crash(2)
	wantSettled(t, d, map[int]api.Words{final: full(2)})
	mustWrite(t, d, first, full(3))
	d.Flush()
	wantSettled(t, d, map[int]api.Words{first: full(3), final: full(2)})
}

func TestWordsAreKeptWhole(t *testing.T) {
	d := disk.New()
	w := api.Words{math.MinInt64, math.MaxInt64, -1, 0, 1, 1 << 32, -1 << 32, 7}
	mustWrite(t, d, 9, w)
	wantRead(t, d, 9, w)
	d.Flush()
	wantSettled(t, d, map[int]api.Words{9: w})
}

func TestWrongSectors(t *testing.T) {
	d := disk.New()
	mustWrite(t, d, first, full(1))
	mustWrite(t, d, final, full(2))
	d.Flush()
	mustWrite(t, d, first, full(3))
	for _, at := range wrong {
		if d.Write(at, full(9)) {
			t.Errorf("Write(%d): true, want false", at)
		}
		wantRead(t, d, at, api.Words{})
	}
	wantWait(t, d, 1)
	wantRead(t, d, first, full(3))
	wantSure(t, d, map[int]api.Words{first: full(1), final: full(2)})
	d.Flush()
	wantSettled(t, d, map[int]api.Words{first: full(3), final: full(2)})
}

func TestRefusedWriteHasNoNumber(t *testing.T) {
	d := disk.New()
	d.Write(-1, full(9))
	mustWrite(t, d, 3, full(1))
	d.Write(api.Sectors, full(9))
	mustWrite(t, d, 4, full(2))
	d.Crash(2)
	wantSettled(t, d, map[int]api.Words{4: full(2)})
}

func TestCrashByMaskZeroAndAllBits(t *testing.T) {
	for _, mask := range []uint64{0, allBits} {
		d := disk.New()
		mustWrite(t, d, 3, full(1))
		d.Flush()
		want := map[int]api.Words{3: full(1)}
		for i := range 2 * 64 {
			at := i % api.Sectors
			mustWrite(t, d, at, full(int64(i+2)))
			if mask == allBits {
				want[at] = full(int64(i + 2))
			}
		}
		d.Crash(mask)
		wantSettled(t, d, want)
	}
}

// Sectors of the writes that the crash tests let wait, some for one sector, by their numbers.
var sectorsOfWrites = []int{3, final, 3, first, final, 3, 8}

func TestCrashByEachMask(t *testing.T) {
	for mask := range uint64(1) << len(sectorsOfWrites) {
		d := disk.New()
		mustWrite(t, d, 3, full(50))
		d.Flush()
		want := map[int]api.Words{3: full(50)}
		for number, at := range sectorsOfWrites {
			w := full(int64(number + 1))
			mustWrite(t, d, at, w)
			if mask&(1<<number) != 0 {
				want[at] = w
			}
		}
		d.Crash(mask)
		wantSettled(t, d, want)
		if t.Failed() {
			t.Fatalf("mask %b", mask)
		}
	}
}

func TestCrashKeepsSomeOfOneSector(t *testing.T) {
	cases := []struct {
		mask uint64
		want api.Words
	}{
		{0b000, full(10)}, {0b001, full(11)}, {0b010, full(12)}, {0b011, full(12)},
		{0b100, full(13)}, {0b101, full(13)}, {0b110, full(13)}, {0b111, full(13)},
		{0b1000, full(10)}, {1 << 63, full(10)},
	}
	for _, c := range cases {
		d := disk.New()
		mustWrite(t, d, 5, full(10))
		d.Flush()
		mustWrite(t, d, 5, full(11))
		mustWrite(t, d, 5, full(12))
		mustWrite(t, d, 5, full(13))
		d.Crash(c.mask)
		wantSettled(t, d, map[int]api.Words{5: c.want})
	}
}

// Each mask of one bit keeps just the writes of whose number it has the bit, however often the numbers begin anew.
func TestCrashNumbersGoRound(t *testing.T) {
	const writes = 3*64 + 5
	for bit := range 64 {
		d := disk.New()
		want := map[int]api.Words{}
		for i := range writes {
			at, w := i%api.Sectors, full(int64(i+1))
			mustWrite(t, d, at, w)
			if i == bit || i == bit+64 || i == bit+128 || i == bit+192 {
				want[at] = w
			}
		}
		wantWait(t, d, writes)
		d.Crash(1 << bit)
		wantSettled(t, d, want)
	}
}

func TestBehindNumber63ComesZeroAgain(t *testing.T) {
	cases := []struct {
		writes int
		mask   uint64
		want   int64 // which write stays, from 1 on; 0: none
	}{
		{63, 1 << 63, 0}, {64, 1 << 63, 64}, {65, 1 << 63, 64},
		{64, 1, 1}, {65, 1, 65}, {66, 1, 65}, {66, 2, 66},
		{128, 1 << 63, 128}, {129, 1, 129}, {129, 1 << 63, 128},
	}
	for _, c := range cases {
		d := disk.New()
		for i := range c.writes {
			mustWrite(t, d, 5, api.Words{int64(i + 1)})
		}
		d.Crash(c.mask)
		wantSettled(t, d, map[int]api.Words{5: {c.want}})
	}
}

func TestCrashWithNoneWaiting(t *testing.T) {
	for _, mask := range []uint64{0, 1, 1 << 63, allBits} {
		d := disk.New()
		d.Crash(mask)
		wantSettled(t, d, nil)
		mustWrite(t, d, 3, full(1))
		d.Flush()
		d.Crash(mask)
		d.Crash(mask)
		wantSettled(t, d, map[int]api.Words{3: full(1)})
	}
}

func TestFlushWithNoneWaiting(t *testing.T) {
	d := disk.New()
	d.Flush()
	wantSettled(t, d, nil)
}

func TestNumbersBeginAnewBehindFlushAndCrash(t *testing.T) {
	d := disk.New()
	mustWrite(t, d, 1, full(1))
	mustWrite(t, d, 2, full(2))
	d.Flush()
	mustWrite(t, d, 3, full(3))
	mustWrite(t, d, 4, full(4))
	d.Crash(1)
	mustWrite(t, d, 5, full(5))
	mustWrite(t, d, 6, full(6))
	d.Crash(1)
	wantSettled(t, d, map[int]api.Words{1: full(1), 2: full(2), 3: full(3), 5: full(5)})
}

func TestWhatIsLostDoesNotComeBack(t *testing.T) {
	d := disk.New()
	mustWrite(t, d, 1, full(1))
	mustWrite(t, d, 2, full(2))
	d.Crash(0)
	mustWrite(t, d, 3, full(3))
	wantWait(t, d, 1)
	d.Crash(allBits)
	d.Flush()
	wantSettled(t, d, map[int]api.Words{3: full(3)})
}

func TestSureIsNewMemory(t *testing.T) {
	d := disk.New()
	mustWrite(t, d, 3, full(1))
	d.Flush()
	want := map[int]api.Words{3: full(1)}
	one, other := d.Sure(), d.Sure()
	for i := range one {
		one[i] = full(99)
	}
	_ = append(one[:1], full(98))
	wantSettled(t, d, want)
	if !slices.Equal(other, holding(want)) {
		t.Errorf("two answers of Sure share memory: %v", other)
	}
	mustWrite(t, d, 3, full(2))
	d.Flush()
	if !slices.Equal(other, holding(want)) {
		t.Errorf("an answer of Sure changed with the disk: %v", other)
	}
}

func TestWhatReadAndWriteShareIsNone(t *testing.T) {
	d := disk.New()
	w := full(1)
	mustWrite(t, d, 3, w)
	w[0] = 99
	got := d.Read(3)
	got[1] = 99
	wantRead(t, d, 3, full(1))
	d.Flush()
	got = d.Read(3)
	got[1] = 99
	wantSettled(t, d, map[int]api.Words{3: full(1)})
}

func TestTwoDisksKnowNothingOfEachOther(t *testing.T) {
	a, b := disk.New(), disk.New()
	mustWrite(t, a, 3, full(1))
	wantSettled(t, b, nil)
	mustWrite(t, b, 3, full(2))
	mustWrite(t, b, 4, full(3))
	a.Flush()
	wantSettled(t, a, map[int]api.Words{3: full(1)})
	wantWait(t, b, 2)
	wantSure(t, b, nil)
	b.Crash(2)
	wantSettled(t, b, map[int]api.Words{4: full(3)})
	wantSettled(t, a, map[int]api.Words{3: full(1)})
	wantSettled(t, disk.New(), nil)
}

// deeds asks one disk all kinds of things, wrong ones among them, and answers all that it told.
func deeds() (reads []api.Words, waits []int, sure []api.Words) {
	d := disk.New()
	for i := range 2000 {
		at := (i*7)%(api.Sectors+6) - 3
		d.Write(at, full(int64(i)))
		reads = append(reads, d.Read(at), d.Read(i-1000))
		waits = append(waits, d.Wait())
		switch {
		case i%301 == 300:
			d.Flush()
		case i%97 == 96:
			d.Crash(uint64(i) * 0x9e3779b97f4a7c15)
		}
		sure = append(sure, d.Sure()...)
	}
	return reads, waits, sure
}

func TestSameQuestionsSameAnswers(t *testing.T) {
	reads, waits, sure := deeds()
	for range 3 {
		r, w, s := deeds()
		if !slices.Equal(r, reads) || !slices.Equal(w, waits) || !slices.Equal(s, sure) {
			t.Fatal("the same questions had other answers")
		}
	}
}
