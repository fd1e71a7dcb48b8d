package life_test

import (
	"fmt"
	"math"
	"slices"
	"testing"

	"overwinter/api"
	"overwinter/life"
	"overwinter/machine"
	"overwinter/parse"
)

const (
	least   = math.MinInt
	most    = math.MaxInt
	allBits = uint64(math.MaxUint64)
)

func nums(l ...int64) []int64 { return l }

// counted: so many numbers, each another one.
func counted(n int) []int64 {
	var l []int64
	for i := range n {
		l = append(l, int64(100+i))
	}
	return l
}

func program(t *testing.T, text string) api.Program {
	t.Helper()
	p, f := parse.Parse(text)
	if f.Code != 0 {
		t.Fatalf("a test is written wrong: %v of %s", f, text)
	}
	return p
}

func run(n int) api.Step { return api.Step{Kind: api.LRun, N: n} }

func crash(mask uint64) api.Step { return api.Step{Kind: api.LCrash, Mask: mask} }

func tear(n, k int, mask uint64) api.Step {
	return api.Step{Kind: api.LTear, N: n, K: k, Mask: mask}
}

func steps(l ...api.Step) []api.Step { return l }

func born(t *testing.T, p api.Program, input ...int64) *life.Life {
	t.Helper()
	x, c := life.New(p, input)
	if x == nil || c != 0 {
		t.Fatalf("New of %v: code %d", p, c)
	}
	return x
}

// bornOf: of a program that is written in a text.
func bornOf(t *testing.T, text string, input ...int64) *life.Life {
	t.Helper()
	return born(t, program(t, text), input...)
}

func sameResult(a, b api.Result) bool {
	return a.Code == b.Code && slices.Equal(a.Out, b.Out) && slices.Equal(a.Cells, b.Cells)
}

// wantDo: of a step so many instructions are done, and Now behind it is that.
func wantDo(t *testing.T, name string, x *life.Life, s api.Step, n int, now api.Result) {
	t.Helper()
	if got, c := x.Do(s); got != n || c != 0 {
		t.Errorf("%s: Do of %v: %d, code %d, want %d, code 0", name, s, got, c, n)
	}
	wantNow(t, fmt.Sprintf("%s: behind %v", name, s), x, now)
}

func wantNow(t *testing.T, name string, x *life.Life, want api.Result) {
	t.Helper()
	if got := x.Now(); !sameResult(got, want) {
		t.Errorf("%s: Now: %v, want %v", name, got, want)
	}
}

func wantRun(t *testing.T, name string, p api.Program, input []int64, l []api.Step, fuel int, want api.Result) {
	t.Helper()
	if got, c := life.Run(p, input, l, fuel); !sameResult(got, want) || c != 0 {
		t.Errorf("%s: Run of %v, fuel %d: %v, code %d, want %v", name, l, fuel, got, c, want)
	}
}

// goesOn: what Now tells of a life that has not ended.
func goesOn(out []int64, cells ...int64) api.Result {
	return api.Result{Code: api.ErrFuel, Out: out, Cells: cells}
}

func ended(out []int64, cells ...int64) api.Result {
	return api.Result{Out: out, Cells: cells}
}

func stopped(code int, out []int64, cells ...int64) api.Result {
	return api.Result{Code: code, Out: out, Cells: cells}
}

// done: a step, and what is to come of it.
type done struct {
	s   api.Step
	n   int
	now api.Result
}

// twoCommits: 11 instructions; the commits are those behind 3 and behind 7.
const twoCommits = "let a 1 let b 1 (read a) (print (var a)) (commit) (read b) (print (var b)) (commit) (set a (num 9))"

// TestSteps: several, one behind the other, in several orders.
func TestSteps(t *testing.T) {
	for i, l := range [][]done{
		{
			{run(3), 3, goesOn(nums(7), 7, 0)},
			{crash(0), 0, goesOn(nums(7), 0, 0)},
			{run(4), 4, goesOn(nums(7), 7, 0)},
			{crash(allBits), 0, goesOn(nums(7), 7, 0)},
			{run(3), 3, goesOn(nums(7, 8), 7, 8)},
			{crash(0), 0, goesOn(nums(7, 8), 7, 0)},
			{tear(99, 2, allBits), 4, goesOn(nums(7, 8), 7, 0)},
			{tear(99, 1, 0), 4, goesOn(nums(7, 8), 7, 0)},
			{tear(99, 1, 1), 4, goesOn(nums(7, 8), 7, 8)},
			{run(2), 2, goesOn(nums(7, 8), 9, 8)},
			{run(0), 0, goesOn(nums(7, 8), 9, 8)},
			{run(99), 1, ended(nums(7, 8), 9, 8)},
			{run(99), 0, ended(nums(7, 8), 9, 8)},
			{crash(0), 0, goesOn(nums(7, 8), 7, 8)},
			{tear(99, 0, 0), 3, ended(nums(7, 8), 9, 8)},
			{tear(99, 0, 0), 0, ended(nums(7, 8), 9, 8)},
		},
		{
			{crash(5), 0, goesOn(nil, 0, 0)},
			{run(1), 1, goesOn(nil, 7, 0)},
			{run(1), 1, goesOn(nil, 7, 0)},
			{run(1), 1, goesOn(nums(7), 7, 0)},
			{tear(1, 0, 0), 1, goesOn(nums(7), 7, 0)},
			{tear(3, 0, 0), 3, goesOn(nums(7, 8), 7, 8)},
			{run(99), 4, ended(nums(7, 8), 9, 8)},
		},
		{
			{tear(99, 99, allBits), 4, goesOn(nums(7), 0, 0)},
			{tear(99, 99, allBits), 4, goesOn(nums(7), 0, 0)},
			{run(9), 9, goesOn(nums(7, 8), 7, 8)},
			{crash(0), 0, goesOn(nums(7, 8), 7, 8)},
			{crash(allBits), 0, goesOn(nums(7, 8), 7, 8)},
			{run(3), 3, ended(nums(7, 8), 9, 8)},
		},
		{
			{tear(4, 1, 1), 4, goesOn(nums(7), 7, 0)},
			{run(4), 4, goesOn(nums(7, 8), 7, 8)},
			{tear(1, 3, 0), 1, goesOn(nums(7, 8), 7, 8)},
			{run(1), 1, goesOn(nums(7, 8), 9, 8)},
			{crash(1), 0, goesOn(nums(7, 8), 7, 8)},
			{run(99), 3, ended(nums(7, 8), 9, 8)},
		},
	} {
		x := bornOf(t, twoCommits, 7, 8)
		wantNow(t, "new", x, goesOn(nil, 0, 0))
		for j, d := range l {
			wantDo(t, fmt.Sprintf("life %d, step %d", i, j), x, d.s, d.n, d.now)
		}
	}
}

// TestExamples: those of the document.
func TestExamples(t *testing.T) {
	x := bornOf(t, "(print (num 5)) (commit)")
	wantDo(t, "two instructions print", x, run(2), 2, goesOn(nums(5)))
	if !x.Commits() {
		t.Error("the third instruction is no commit")
	}
	wantDo(t, "crashed ahead of the commit", x, crash(0), 0, goesOn(nums(5)))
	wantDo(t, "5 again", x, run(2), 2, goesOn(nums(5)))
	wantDo(t, "to the end", x, run(99), 2, ended(nums(5)))

	for k, masks := range map[int]map[uint64]bool{
		0: {0: true, allBits: true},
		1: {0: false, 1: true, 2: false, allBits: true, allBits - 1: false},
		2: {0: false, 1: false, allBits: false},
		5: {0: false, 1: false, allBits: false},
		6: {0: false, 1: false, allBits: false},
	} {
		for mask, stays := range masks {
			x = bornOf(t, "(commit)")
			x.Do(tear(1, k, mask))
			if x.Commits() == stays {
				t.Errorf("a commit of one page, the last %d of six deeds left out, mask %d: is it done? %v, want %v", k, mask, !stays, stays)
			}
		}
	}

	x = bornOf(t, "let a 1 let b 1 (read a) (read b)", 7, 8)
	wantDo(t, "reads the first one", x, run(1), 1, goesOn(nil, 7, 0))
	wantDo(t, "crashes between", x, crash(0), 0, goesOn(nil, 0, 0))
	wantDo(t, "reads the first one again", x, run(1), 1, goesOn(nil, 7, 0))
	wantDo(t, "and the second one", x, run(99), 2, ended(nil, 7, 8))
	x = bornOf(t, "let a 1 let b 1 (read a) (commit) (read b)", 7, 8)
	wantDo(t, "it did commit", x, run(2), 2, goesOn(nil, 7, 0))
	wantDo(t, "crashes between", x, crash(0), 0, goesOn(nil, 7, 0))
	wantDo(t, "and reads the second one", x, run(1), 1, goesOn(nil, 7, 8))
}

// TestKindsOfPrograms: those that only commit, only print, only read, and do none of these.
func TestKindsOfPrograms(t *testing.T) {
	x := bornOf(t, "(commit) (commit) (commit)")
	wantDo(t, "commits", x, tear(9, 0, 0), 1, goesOn(nil))
	wantDo(t, "commits", x, tear(9, 1, 1), 1, goesOn(nil))
	wantDo(t, "commits", x, tear(9, 1, 0), 1, goesOn(nil))
	wantDo(t, "commits", x, run(9), 2, ended(nil))

	x = bornOf(t, "(print (num 1)) (print (num 2)) (print (num 1))")
	wantDo(t, "prints", x, run(4), 4, goesOn(nums(1, 2)))
	wantDo(t, "prints", x, crash(0), 0, goesOn(nums(1, 2)))
	wantDo(t, "prints", x, run(2), 2, goesOn(nums(1, 2)))
	wantDo(t, "prints", x, tear(9, 0, 0), 5, ended(nums(1, 2, 1)))

	x = bornOf(t, "let a 1 (read a) (read a) (read a)", 4, 5)
	wantDo(t, "reads", x, run(2), 2, goesOn(nil, 5))
	wantDo(t, "reads", x, crash(0), 0, goesOn(nil, 0))
	wantDo(t, "reads", x, run(9), 3, stopped(api.ErrInput, nil, 5))

	x = bornOf(t, "let a 3 (put a (num 2) (num 5)) (set a (get a (num 2)))")
	wantDo(t, "reckons", x, run(3), 3, goesOn(nil, 0, 0, 5))
	wantDo(t, "reckons", x, crash(0), 0, goesOn(nil, 0, 0, 0))
	wantDo(t, "reckons", x, run(9), 7, ended(nil, 5, 0, 5))
}

// TestIsAMachine: its methods, and those of what it embeds, are those of the machine that it has now.
func TestIsAMachine(t *testing.T) {
	x := bornOf(t, twoCommits, 7, 8)
	var m *machine.Machine = x.Machine
	x.Do(run(3))
	if x.Machine != m || !m.Commits() || !x.Commits() || x.Gen() != 0 || x.Load(0) != 3 {
		t.Error("LRun is not done on the machine that it has")
	}
	x.Do(run(1))
	if x.Machine != m || x.Commits() || x.Torn() || x.Gen() != 1 || len(x.Dirty()) != 0 {
		t.Error("behind a commit it is another machine, or not committed")
	}
	if !x.Step() || x.Load(0) != 5 || !sameResult(x.Result(1), goesOn(nums(7), 7)) {
		t.Error("a Step of it is none of its machine")
	}
	wantNow(t, "behind a Step", x, goesOn(nums(7), 7, 8))
	x.Do(crash(0))
	if x.Machine == m || x.Load(0) != 4 || x.Gen() != 1 || m.Load(0) != 5 {
		t.Error("it did not wake on another machine")
	}
	m = x.Machine
	x.Do(tear(9, 1, 0))
	if x.Machine == m || !m.Torn() || x.Torn() || x.Load(0) != 4 || x.Gen() != 1 {
		t.Error("behind a tear it did not wake on another machine")
	}
	m = x.Machine
	x.Do(tear(9, 0, 0))
	if x.Machine == m || m.Torn() || x.Load(0) != 8 || x.Gen() != 2 {
		t.Error("behind a tear of no deeds it did not wake on another machine")
	}
	m = x.Machine
	x.Do(tear(9, 1, 0))
	if x.Machine != m || m.Step() || x.Load(4) != 1 {
		t.Error("where no commit comes it is another machine, or not at its end")
	}
}

// TestTearOfTheMachine: what its Tear leaves out of a commit, a crash may keep or lose; the machine that wakes knows nothing of it.
func TestTearOfTheMachine(t *testing.T) {
	for mask, cells := range map[uint64][]int64{0: nums(0, 0), 1: nums(7, 0), 2: nums(0, 0), allBits: nums(7, 0)} {
		x := bornOf(t, twoCommits, 7, 8)
		x.Tear(1)
		wantDo(t, "torn", x, run(4), 4, goesOn(nums(7), 7, 0))
		if !x.Torn() || x.Gen() != 0 {
			t.Error("a commit of LRun is not torn as the machine's Tear says")
		}
		wantDo(t, "torn", x, crash(mask), 0, goesOn(nums(7), cells...))
		wantDo(t, "torn", x, run(99), 11-4*int(x.Gen()), ended(nums(7, 8), 9, 8))
		if x.Torn() || x.Gen() != 2 {
			t.Error("Tear of a machine is one of the machine that woke behind it")
		}
	}
	x := bornOf(t, twoCommits, 7, 8)
	x.Tear(3)
	wantDo(t, "the last Tear says", x, tear(99, 0, 0), 4, goesOn(nums(7), 7, 0))
}

// TestRun: a life of steps, and then so many instructions.
func TestRun(t *testing.T) {
	p := program(t, twoCommits)
	for _, c := range []struct {
		l    []api.Step
		fuel int
		want api.Result
	}{
		{nil, 0, goesOn(nil, 0, 0)},
		{nil, 3, goesOn(nums(7), 7, 0)},
		{nil, 10, goesOn(nums(7, 8), 9, 8)},
		{nil, 11, ended(nums(7, 8), 9, 8)},
		{nil, 12, ended(nums(7, 8), 9, 8)},
		{steps(run(3)), 0, goesOn(nums(7), 7, 0)},
		{steps(run(3)), 8, ended(nums(7, 8), 9, 8)},
		{steps(run(3), crash(0)), 0, goesOn(nums(7), 0, 0)},
		{steps(run(3), crash(0)), 10, goesOn(nums(7, 8), 9, 8)},
		{steps(run(3), crash(0)), 11, ended(nums(7, 8), 9, 8)},
		{steps(run(4), crash(0)), 7, ended(nums(7, 8), 9, 8)},
		{steps(tear(99, 1, 1), tear(99, 1, 0)), 0, goesOn(nums(7, 8), 7, 0)},
		{steps(tear(99, 1, 0), tear(99, 1, 1), run(99)), 0, ended(nums(7, 8), 9, 8)},
		{steps(run(99), crash(0)), 0, goesOn(nums(7, 8), 7, 8)},
		{steps(run(99), crash(0)), 3, ended(nums(7, 8), 9, 8)},
		{steps(run(99)), 0, ended(nums(7, 8), 9, 8)},
		{steps(run(99), tear(99, 5, 0)), 0, ended(nums(7, 8), 9, 8)},
	} {
		wantRun(t, "a life", p, nums(7, 8), c.l, c.fuel, c.want)
	}
}
