package machine_test

import (
	"fmt"
	"math"
	"slices"
	"testing"

	"overwinter/api"
	"overwinter/store"
)

const allBits = math.MaxUint64

// lives: programs that commit, print and read, each with an input.
func lives() map[string][]int64 {
	return map[string][]int64{
		"(print (num 5)) (commit)":                                                                        nil,
		"let a 1 (print (num 5)) (commit) (print (num 6)) (commit)":                                       nil,
		"let a 1 let b 1 (read a) (commit) (read b) (print (sub (var a) (var b))) (commit)":               nums(7, 9),
		"let a 1 let b 1 (read a) (read b) (commit) (print (add (var a) (var b)))":                        nums(7, 9),
		"let a 1 (while (less (var a) (num 4)) ((set a (add (var a) (num 1))) (print (var a)) (commit)))": nil,
		"let a 1 let s 1 (read a) (while (var a) ((set s (add (var s) (var a))) (if (less (var a) (num 5)) ((commit) (print (var s))) ((print (num 0)))) (read a)))":                        nums(4, 9, 3, 2, 0),
		"let a 40 let i 1 (while (less (var i) (num 41)) ((put a (var i) (mul (var i) (var i))) (print (var i)) (if (same (var i) (num 20)) ((commit)) ()) (set i (add (var i) (num 1)))))": nil,
		"let a 2 (set a (num 3)) (commit) (print (num 1)) (put a (var a) (num 5)) (commit)":                                                                                                 nil,
		"let a 2 (read a) (print (var a)) (commit) (read a) (print (var a)) (commit) (read a)":                                                                                              nums(1, 2),
	}
}

// eachLife: with what comes of it if nothing crashes, and how many instructions that takes.
func eachLife(t *testing.T, do func(t *testing.T, text string, input []int64, want api.Result, took int)) {
	for text, input := range lives() {
		r := rigOf(t, text, input...)
		took := r.run(t)
		do(t, text, input, r.result(), took)
	}
}

// TestAnewAtEachInstruction: all that a machine knows stands in its memory: another one on it goes on as the first one would.
func TestAnewAtEachInstruction(t *testing.T) {
	eachLife(t, func(t *testing.T, text string, input []int64, want api.Result, took int) {
		r, s := rigOf(t, text, input...), rigOf(t, text, input...)
		n := 0
		for s.Step() {
			r.again()
			if !r.Step() {
				t.Fatalf("%s: made anew at instruction %d it does not go on", text, n)
			}
			n++
			if !slices.Equal(r.All(), s.All()) || !slices.Equal(r.Dirty(), s.Dirty()) || r.Gen() != s.Gen() || r.Commits() != s.Commits() || r.Torn() {
				t.Fatalf("%s: made anew at instruction %d it is another one", text, n-1)
			}
			wantResult(t, text, r.result(), s.result())
		}
		if r.again(); r.Step() || n != took {
			t.Errorf("%s: made anew at its end it goes on", text)
		}
		wantResult(t, text, r.result(), want)
	})
}

// TestAnewOnce: at each instruction, and the machine that was there ahead of it is asked no more.
func TestAnewOnce(t *testing.T) {
	eachLife(t, func(t *testing.T, text string, input []int64, want api.Result, took int) {
		for n := range took + 1 {
			r := rigOf(t, text, input...)
			r.steps(t, n)
			r.again()
			if more := r.run(t); n+more != took {
				t.Errorf("%s: made anew behind %d it took %d, want %d", text, n, more, took-n)
			}
			wantResult(t, text, r.result(), want)
		}
	})
}

// TestCrashAnywhere: what is there behind it is what was there behind the last commit, and it comes to what it would have come to.
func TestCrashAnywhere(t *testing.T) {
	eachLife(t, func(t *testing.T, text string, input []int64, want api.Result, took int) {
		for n := range took + 1 {
			for _, mask := range []uint64{0, allBits} {
				r := rigOf(t, text, input...)
				committed := r.All()
				for range n {
					commits := r.Commits()
					r.steps(t, 1)
					if commits {
						committed = r.All()
					}
				}
				out, gen := r.printer.List(), r.Gen()
				r.disk.Crash(mask)
				r.wake()
				if !slices.Equal(r.All(), committed) || r.Gen() != gen || r.Torn() {
					t.Fatalf("%s: behind a crash behind %d: %v, want %v", text, n, r.All(), committed)
				}
				if !slices.Equal(r.printer.List(), out) {
					t.Fatalf("%s: a crash behind %d changed what was printed", text, n)
				}
				r.run(t)
				wantResult(t, text, r.result(), want)
			}
		}
	})
}

// TestCrashAgainAndAgain: with as many instructions between as one commit needs, it comes to its end.
func TestCrashAgainAndAgain(t *testing.T) {
	eachLife(t, func(t *testing.T, text string, input []int64, want api.Result, took int) {
		for _, by := range []int{1, 2, 3, 5, 7, 11, 19} {
			r := rigOf(t, text, input...)
			for range 30 {
				for range by {
					r.Step()
				}
				r.disk.Crash(uint64(by))
				r.wake()
				if out := r.printer.List(); r.printer.Code() != 0 || len(out) > len(want.Out) || !slices.Equal(out, want.Out[:len(out)]) {
					t.Fatalf("%s: by %d: printed %v, want the beginning of %v", text, by, out, want.Out)
				}
			}
			r.run(t)
			wantResult(t, fmt.Sprint(text, " by ", by), r.result(), want)
		}
	})
}

// TestExampleOfDocument: crashed ahead of the commit the program prints 5 again, and it is not printed twice.
func TestExampleOfDocument(t *testing.T) {
	r := rigOf(t, "(print (num 5)) (commit)")
	r.steps(t, 2)
	if !r.Commits() {
		t.Error("the third instruction is no commit")
	}
	r.disk.Crash(0)
	r.wake()
	r.steps(t, 2)
	wantPrinter(t, "again", r.printer, 0, 5)
	r.run(t)
	wantResult(t, "again", r.result(), api.Result{Out: nums(5)})
	r = rigOf(t, "let a 1 let b 1 (read a) (read b)", 7, 8)
	r.steps(t, 1)
	r.disk.Crash(0)
	r.wake()
	r.steps(t, 1)
	wantKnown(t, "reads the first one again", r.memory, known{next: 1, read: 1, cells: nums(7)})
}

// torn: how many writes wait on the disk when of a commit of so many pages so many deeds were done, and whether it is there if all of them stay.
func torn(pages, deeds int) (waits int, there bool) {
	switch flush := pages + api.TableSize; {
	case deeds <= flush:
		return deeds, false
	case deeds == flush+1:
		return 0, false
	case deeds == flush+2:
		return 1, true
	}
	return 0, true
}

// pagesOf: programs that have another number of pages to commit at their first commit.
func pagesOf() map[string]int {
	return map[string]int{
		"(commit)":                         1, // what comes stands in page 0
		"let a 1 (set a (num 5)) (commit)": 2, // the stack begins in page 6
		"let a 48 (put a (num 0) (num 1)) (put a (num 10) (num 1)) (put a (num 20) (num 1)) (commit)":                                                                                 4,
		"let a 47 let i 1 (while (less (var i) (num 47)) ((put a (var i) (num 1)) (set i (add (var i) (num 1))))) (commit) (set i (num 9)) (commit)":                                  7,
		"let a 47 let i 1 (while (less (var i) (num 47)) ((put a (var i) (num 1)) (set i (add (var i) (num 1))))) (print (add (num 1) (add (num 1) (add (num 1) (num 1))))) (commit)": 8,
	}
}

// TestTear: of each number of deeds that are left out, and more.
func TestTear(t *testing.T) {
	for text, pages := range pagesOf() {
		all := pages + api.TableSize + 3
		tears := []int{-1, math.MinInt, all + 1, all + 2, all + 50, math.MaxInt}
		for k := range all + 1 {
			tears = append(tears, k)
		}
		for _, k := range tears {
			for _, mask := range []uint64{0, 1, allBits} {
				wantTear(t, text, pages, k, mask)
			}
		}
	}
}

// toCommit: how many pages a commit has that comes: the first one, too, as there it says what comes behind it.
func toCommit(dirty []store.Page) int {
	if slices.ContainsFunc(dirty, func(p store.Page) bool { return p.N == 0 }) {
		return len(dirty)
	}
	return len(dirty) + 1
}

func wantTear(t *testing.T, text string, pages, k int, mask uint64) {
	t.Helper()
	name := fmt.Sprintf("%s: Tear(%d), mask %d", text, k, mask)
	r := rigOf(t, text)
	r.toCommit(t)
	before := r.All()
	r.Tear(k)
	if !r.Commits() || r.Torn() || r.disk.Wait() != 0 || !slices.Equal(r.All(), before) {
		t.Errorf("%s: Tear did something ahead of a commit", name)
	}
	if n := toCommit(r.Dirty()); n != pages {
		t.Fatalf("a test is written wrong: %s has %d pages to commit, not %d", text, n, pages)
	}
	next := r.Load(wordNext)
	r.steps(t, 1)
	left := min(max(k, 0), pages+api.TableSize+3)
	waits, there := torn(pages, pages+api.TableSize+3-left)
	if r.disk.Wait() != waits || r.Torn() != (left > 0) || r.Load(wordNext) != next+1 || r.Load(wordState) != 0 {
		t.Errorf("%s: %d writes wait, Torn %v, want %d and %v", name, r.disk.Wait(), r.Torn(), waits, left > 0)
	}
	now := r.All()
	r.disk.Crash(mask)
	r.wake()
	want := make([]int64, len(now))
	gen := int64(0)
	if there && (left == 0 || mask&1 == 1) {
		want, gen = now, 1
	}
	if !slices.Equal(r.All(), want) || r.Gen() != gen || r.Torn() {
		t.Errorf("%s: behind a crash there is %v of %d commits, want %v of %d", name, r.All(), r.Gen(), want, gen)
	}
}

// TestTearLater: of the commits that come, be they the next instruction or a later one; and of each machine for itself.
func TestTearLater(t *testing.T) {
	r := rigOf(t, "let a 1 (commit) (set a (num 5)) (commit) (set a (num 6)) (commit)")
	r.steps(t, 1)
	r.Tear(2)
	if r.Torn() || r.Gen() != 1 {
		t.Error("Tear tears a commit that was")
	}
	r.steps(t, 2)
	if r.Torn() {
		t.Error("torn without a commit")
	}
	r.steps(t, 1)
	if !r.Torn() {
		t.Error("not torn")
	}
	r.steps(t, 2)
	if !r.Torn() {
		t.Error("the last commit was not done; it is not told any more behind other instructions")
	}
	r.disk.Crash(allBits)
	r.wake()
	wantKnown(t, "behind the tear", r.memory, known{next: 1})
	if r.Torn() {
		t.Error("another machine is torn")
	}
	r.run(t)
	if r.Torn() || r.Gen() != 3 {
		t.Error("another machine is torn by the first one's Tear")
	}
}

// TestTearTwice: the last Tear says how many deeds are left out, none, too.
func TestTearTwice(t *testing.T) {
	for _, l := range [][]int{{3, 0}, {3, -1}, {100, 0}, {math.MaxInt, 1, 0}, {0, 0}, {-5, -6}} {
		r := rigOf(t, "let a 1 (set a (num 5)) (commit)")
		for _, k := range l {
			r.Tear(k)
		}
		r.run(t)
		if r.Torn() || r.Gen() != 1 {
			t.Errorf("Tear of %v: Torn %v and %d commits, want false and 1", l, r.Torn(), r.Gen())
		}
	}
	for _, l := range [][]int{{0, 1}, {100, 1}, {-1, 1}, {2, 1}} {
		r := rigOf(t, "let a 1 (set a (num 5)) (commit)")
		for _, k := range l {
			r.Tear(k)
		}
		r.steps(t, 3)
		if !r.Torn() || r.disk.Wait() != 1 {
			t.Errorf("Tear of %v: Torn %v and %d writes wait, want true and 1", l, r.Torn(), r.disk.Wait())
		}
	}
}

// TestTearAll: of all commits that come; as nothing is done, the disk is as it was.
func TestTearAll(t *testing.T) {
	r := rigOf(t, "let a 1 (while (less (var a) (num 9)) ((set a (add (var a) (num 1))) (commit)))")
	r.toCommit(t)
	r.steps(t, 1)
	before := r.disk.Sure()
	r.Tear(1000)
	for r.Step() {
		if r.Gen() != 1 || r.disk.Wait() != 0 {
			t.Fatal("a commit of which all is left out did something")
		}
	}
	if !r.Torn() || !slices.Equal(r.disk.Sure(), before) {
		t.Error("a commit of which all is left out was done")
	}
	wantResult(t, "at its end", r.result(), api.Result{Cells: nums(9)})
}

// TestTornIsOfTheLast: behind one that was done it is not told any more that one ahead of it was not.
func TestTornIsOfTheLast(t *testing.T) {
	r := rigOf(t, "(commit) (commit) (commit)")
	for i, tear := range []int{1000, 0, 1000} {
		r.Tear(tear)
		r.steps(t, 1)
		if r.Torn() != (tear > 0) {
			t.Errorf("commit %d: Torn %v, want %v", i, r.Torn(), tear > 0)
		}
	}
	if r.Gen() != 1 {
		t.Errorf("%d commits, want 1", r.Gen())
	}
}

// TestTearEverywhere: at each commit of each life, with each number of deeds left out and each root that stays or not, it comes to what it would have come to.
func TestTearEverywhere(t *testing.T) {
	eachLife(t, func(t *testing.T, text string, input []int64, want api.Result, took int) {
		for n := range took {
			for k := range 13 {
				for _, mask := range []uint64{0, allBits} {
					r := rigOf(t, text, input...)
					r.steps(t, n)
					if !r.Commits() {
						break
					}
					r.Tear(k)
					r.steps(t, 1)
					r.disk.Crash(mask)
					r.wake()
					if out := r.printer.List(); !slices.Equal(out, want.Out[:len(out)]) {
						t.Errorf("%s: printed %v", text, out)
					}
					r.run(t)
					wantResult(t, text, r.result(), want)
				}
			}
		}
	})
}
