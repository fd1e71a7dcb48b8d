package machine_test

import (
	"math"
	"slices"
	"testing"

	"overwinter/api"
	"overwinter/machine"
)

// entry: a number that is to be printed at a place.
type entry struct{ at, n int64 }

func printed(l ...entry) *machine.Printer {
	p := &machine.Printer{}
	for _, x := range l {
		p.Put(x.at, x.n)
	}
	return p
}

func wantPrinter(t *testing.T, name string, p *machine.Printer, code int, want ...int64) {
	t.Helper()
	if got := p.List(); !slices.Equal(got, want) {
		t.Errorf("%s: List: %v, want %v", name, got, want)
	}
	if p.Code() != code {
		t.Errorf("%s: Code: %d, want %d", name, p.Code(), code)
	}
}

func TestZeroPrinter(t *testing.T) {
	var p machine.Printer
	wantPrinter(t, "zero", &p, 0)
	p.Put(0, 7)
	wantPrinter(t, "one", &p, 0, 7)
	wantPrinter(t, "another zero one", &machine.Printer{}, 0)
}

// TestPutPlaces: behind all, ahead of that, behind that, below 0.
func TestPutPlaces(t *testing.T) {
	const most, least = math.MaxInt64, math.MinInt64
	for name, c := range map[string]struct {
		l    []entry
		code int
		want []int64
	}{
		"one":                      {[]entry{{0, 5}}, 0, []int64{5}},
		"nought":                   {[]entry{{0, 0}}, 0, []int64{0}},
		"several":                  {[]entry{{0, 5}, {1, 5}, {2, -6}}, 0, []int64{5, 5, -6}},
		"edges of numbers":         {[]entry{{0, most}, {1, least}, {0, most}, {1, least}}, 0, []int64{most, least}},
		"the same again":           {[]entry{{0, 5}, {0, 5}}, 0, []int64{5}},
		"all again":                {[]entry{{0, 5}, {1, 6}, {0, 5}, {1, 6}, {2, 7}}, 0, []int64{5, 6, 7}},
		"the last one again":       {[]entry{{0, 5}, {1, 6}, {1, 6}, {1, 6}}, 0, []int64{5, 6}},
		"another one":              {[]entry{{0, 5}, {0, 6}}, api.ErrOther, []int64{5}},
		"another last one":         {[]entry{{0, 5}, {1, 6}, {1, 5}}, api.ErrOther, []int64{5, 6}},
		"another one in between":   {[]entry{{0, 5}, {1, 6}, {2, 7}, {1, 7}}, api.ErrOther, []int64{5, 6, 7}},
		"other in its high bits":   {[]entry{{0, 5}, {0, 5 + 1<<32}}, api.ErrOther, []int64{5}},
		"one behind, of none":      {[]entry{{1, 5}}, api.ErrOther, nil},
		"one behind":               {[]entry{{0, 5}, {2, 5}}, api.ErrOther, []int64{5}},
		"far behind":               {[]entry{{0, 5}, {most, 5}}, api.ErrOther, []int64{5}},
		"a multiple of 2^32":       {[]entry{{0, 5}, {1 << 32, 5}}, api.ErrOther, []int64{5}},
		"below 0, of none":         {[]entry{{-1, 5}}, api.ErrOther, nil},
		"below 0":                  {[]entry{{0, 5}, {-1, 5}}, api.ErrOther, []int64{5}},
		"far below 0":              {[]entry{{0, 5}, {least, 5}}, api.ErrOther, []int64{5}},
		"it goes on":               {[]entry{{0, 5}, {0, 6}, {1, 6}, {2, 7}, {0, 5}}, api.ErrOther, []int64{5, 6, 7}},
		"it goes on behind below":  {[]entry{{-1, 5}, {0, 5}, {1, 6}}, api.ErrOther, []int64{5, 6}},
		"it goes on behind beyond": {[]entry{{1, 5}, {0, 5}, {1, 6}}, api.ErrOther, []int64{5, 6}},
	} {
		wantPrinter(t, name, printed(c.l...), c.code, c.want...)
	}
}

// TestAllShortPuts: each history of few numbers at few places, held against what the document says of it.
func TestAllShortPuts(t *testing.T) {
	var each func(l []entry, want []int64, code int)
	each = func(l []entry, want []int64, code int) {
		wantPrinter(t, "a history", printed(l...), code, want...)
		if t.Failed() {
			t.Fatalf("of %v", l)
		}
		if len(l) == 5 {
			return
		}
		for at := int64(-1); at <= 3; at++ {
			for n := range int64(2) {
				more := append(slices.Clone(l), entry{at, n})
				switch {
				case at == int64(len(want)):
					each(more, append(slices.Clone(want), n), code)
				case at >= 0 && at < int64(len(want)) && want[at] == n:
					each(more, want, code)
				default:
					each(more, want, api.ErrOther)
				}
			}
		}
	}
	each(nil, nil, 0)
}

func TestManyPuts(t *testing.T) {
	p := &machine.Printer{}
	var want []int64
	for i := range int64(5000) {
		want = append(want, i*i-7)
		p.Put(i, i*i-7)
		p.Put(i/2, i/2*(i/2)-7)
	}
	wantPrinter(t, "many", p, 0, want...)
}

// TestListIsItsOwn: what List told is neither changed by a Put nor changes the Printer.
func TestListIsItsOwn(t *testing.T) {
	p := printed(entry{0, 5}, entry{1, 6}, entry{2, 7})
	a, b := p.List(), p.List()
	for i := range a[:cap(a)] {
		a[:cap(a)][i] = -1
	}
	wantPrinter(t, "behind a change", p, 0, 5, 6, 7)
	p.Put(3, 8)
	wantPrinter(t, "behind a Put", p, 0, 5, 6, 7, 8)
	if !slices.Equal(b, []int64{5, 6, 7}) {
		t.Errorf("a list that was told is %v now", b)
	}
	_ = append(b, 9)
	wantPrinter(t, "behind an append", p, 0, 5, 6, 7, 8)
	p.List()
	p.Code()
	wantPrinter(t, "asked again", p, 0, 5, 6, 7, 8)
}

func TestPrintersApart(t *testing.T) {
	p, q := printed(entry{0, 5}), printed(entry{0, 6}, entry{0, 7})
	wantPrinter(t, "the first", p, 0, 5)
	wantPrinter(t, "the second", q, api.ErrOther, 6)
}
