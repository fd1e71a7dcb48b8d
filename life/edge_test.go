package life_test

import (
	"fmt"
	"slices"
	"testing"

	"overwinter/api"
	"overwinter/life"
)

// TestRunAsManyAsThereAre: none, one less, just as many, and more.
func TestRunAsManyAsThereAre(t *testing.T) {
	eachCourse(t, func(t *testing.T, name string, c *course) {
		for _, n := range []int{0, 1, c.took() - 1, c.took(), c.took() + 1, api.MaxFuel} {
			x := born(t, c.program, c.input...)
			want := min(n, c.took())
			wantDo(t, name, x, run(n), want, c.at[want])
			wantDo(t, name, x, run(0), 0, c.at[want])
			wantDo(t, name, x, run(api.MaxFuel), c.took()-want, c.last())
			wantDo(t, name, x, run(api.MaxFuel), 0, c.last())
		}
	})
}

// TestMostFuel: MaxFuel instructions a step; of all steps together there may be more.
func TestMostFuel(t *testing.T) {
	x := bornOf(t, "let a 1 (while (num 1) ((set a (add (var a) (num 1)))))")
	// Of seven instructions around it is the sixth that sets: 3000 are 428 times seven, and four.
	wantDo(t, "once", x, run(api.MaxFuel), api.MaxFuel, goesOn(nil, 428))
	wantDo(t, "twice", x, run(api.MaxFuel), api.MaxFuel, goesOn(nil, 857))
	wantDo(t, "by LTear", x, tear(api.MaxFuel, 0, 0), api.MaxFuel, goesOn(nil, 1285))
	wantDo(t, "a crash", x, crash(0), 0, goesOn(nil, 0))
	wantDo(t, "anew", x, run(api.MaxFuel), api.MaxFuel, goesOn(nil, 428))
	p := program(t, "let a 1 (while (num 1) ((set a (add (var a) (num 1)))))")
	wantRun(t, "one step", p, nil, steps(run(api.MaxFuel)), api.MaxFuel, goesOn(nil, 857))
	wantRun(t, "as many steps as may be", p, nil, slices.Repeat(steps(run(api.MaxFuel)), api.MaxSteps), api.MaxFuel, goesOn(nil, 101*3000/7))
}

// TestCommitAtTheLastInstruction: of MaxFuel of them, by LRun and by LTear.
func TestCommitAtTheLastInstruction(t *testing.T) {
	// Of eight instructions around the seventh commits: 3000 are 375 times eight.
	text := "let a 1 (while (num 1) ((set a (add (var a) (num 1))) (commit)))"
	x := bornOf(t, text)
	wantDo(t, "to behind a while", x, run(api.MaxFuel), api.MaxFuel, goesOn(nil, 375))
	wantDo(t, "to behind a commit", x, run(7), 7, goesOn(nil, 376))
	wantDo(t, "a crash", x, crash(0), 0, goesOn(nil, 376))
	wantDo(t, "to the next one", x, tear(api.MaxFuel, 1, 0), 8, goesOn(nil, 376))
	wantDo(t, "to behind a commit", x, run(api.MaxFuel), api.MaxFuel, goesOn(nil, 751))
	wantDo(t, "a crash", x, crash(0), 0, goesOn(nil, 751))
}

// TestTearWithoutACommit: none comes at all, or none in so many instructions: then nothing crashes, and nothing of it is left behind.
func TestTearWithoutACommit(t *testing.T) {
	for _, k := range []int{0, 1, 2, 6, 99, most} {
		for _, mask := range masks() {
			x := bornOf(t, "let a 1 (set a (num 5)) (print (var a))")
			wantDo(t, "none comes", x, tear(3, k, mask), 3, goesOn(nil, 5))
			wantDo(t, "none comes", x, tear(99, k, mask), 2, ended(nums(5), 5))

			x = bornOf(t, "let a 1 (set a (num 5)) (if (num 0) ((commit)) ((print (var a))))")
			wantDo(t, "it is not come to", x, tear(99, k, mask), 7, ended(nums(5), 5))

			x = bornOf(t, twoCommits, 7, 8)
			m := x.Machine
			wantDo(t, "just ahead of one", x, tear(3, k, mask), 3, goesOn(nums(7), 7, 0))
			wantDo(t, "none", x, tear(0, k, mask), 0, goesOn(nums(7), 7, 0))
			if x.Machine != m || !x.Commits() {
				t.Error("where no commit came it woke")
			}
			wantDo(t, "a commit by LRun", x, run(1), 1, goesOn(nums(7), 7, 0))
			if x.Torn() || x.Gen() != 1 {
				t.Errorf("K %d: a commit behind LTear is torn", k)
			}
			wantDo(t, "a crash", x, crash(0), 0, goesOn(nums(7), 7, 0))
			wantDo(t, "just ahead of the other one", x, tear(3, k, mask), 3, goesOn(nums(7, 8), 7, 8))
			wantDo(t, "behind it", x, run(99), 4, ended(nums(7, 8), 9, 8))
		}
	}
}

// TestTearAtTheFirst: the first instruction is a commit.
func TestTearAtTheFirst(t *testing.T) {
	for _, n := range []int{1, 2, 99, api.MaxFuel} {
		for _, c := range []struct {
			k    int
			mask uint64
			done bool
		}{
			{0, 0, true}, {0, 1, true}, {0, allBits, true},
			{1, 0, false}, {1, 1, true}, {1, 3, true}, {1, allBits, true}, {1, 2, false}, {1, allBits - 1, false}, {1, 1 << 63, false}, {1, 1<<63 + 1, true},
			{2, 0, false}, {2, 1, false}, {2, allBits, false},
			{3, allBits, false}, {4, allBits, false}, {5, allBits, false}, {6, allBits, false}, {7, allBits, false},
			{1 << 32, allBits, false}, {1<<32 + 1, 1, false}, {most, allBits, false}, {most - 1, 1, false},
		} {
			name := fmt.Sprintf("N %d, K %d, mask %d", n, c.k, c.mask)
			x := bornOf(t, "let a 1 (commit) (set a (num 5))")
			wantDo(t, name, x, tear(n, c.k, c.mask), 1, goesOn(nil, 0))
			if x.Commits() == c.done || x.Torn() {
				t.Errorf("%s: is it done? %v, want %v", name, !c.done, c.done)
			}
			left := 4
			if c.done {
				left = 3
			}
			wantDo(t, name, x, run(99), left, ended(nil, 5))
		}
		x := bornOf(t, "let a 1 (commit) (set a (num 5))")
		wantDo(t, "N 0", x, tear(0, 1, 1), 0, goesOn(nil, 0))
		if !x.Commits() {
			t.Error("LTear of no instructions did one")
		}
	}
}

// TestBehindTheEnd: a crash wakes it where it was committed last; a tear does nothing, as no commit comes.
func TestBehindTheEnd(t *testing.T) {
	for _, c := range []struct {
		text          string
		input         []int64
		took, sure    int
		last, awakens api.Result
	}{
		{"let a 1 (set a (num 3)) (print (var a)) (commit) (set a (num 4))", nil, 8, 5, ended(nums(3), 4), goesOn(nums(3), 3)},
		{"let a 1 (set a (num 3)) (print (var a)) (commit)", nil, 6, 5, ended(nums(3), 3), goesOn(nums(3), 3)},
		{"let a 1 (set a (num 3)) (print (var a))", nil, 5, 0, ended(nums(3), 3), goesOn(nums(3), 0)},
		{"let a 1 (set a (num 3)) (commit) (set a (num 4)) (print (get a (num 1))) (commit)", nil, 7, 3, stopped(api.ErrIndex, nil, 4), goesOn(nil, 3)},
		{"let a 1 (set a (num 3)) (print (var a)) (put a (num -1) (num 5)) (commit)", nil, 7, 0, stopped(api.ErrIndex, nums(3), 3), goesOn(nums(3), 0)},
		{"let a 1 (read a) (print (var a)) (commit) (read a) (read a) (commit)", nums(6, 7), 6, 4, stopped(api.ErrInput, nums(6), 7), goesOn(nums(6), 6)},
		{"let a 1 (print (num 2)) (read a) (commit)", nil, 3, 0, stopped(api.ErrInput, nums(2), 0), goesOn(nums(2), 0)},
	} {
		x := bornOf(t, c.text, c.input...)
		wantDo(t, c.text, x, run(99), c.took, c.last)
		m := x.Machine
		for _, k := range []int{0, 1, 2, 99} {
			wantDo(t, c.text, x, tear(99, k, allBits), 0, c.last)
			wantDo(t, c.text, x, tear(0, k, 0), 0, c.last)
		}
		wantDo(t, c.text, x, run(99), 0, c.last)
		if x.Machine != m {
			t.Errorf("%s: it woke without a crash", c.text)
		}
		for _, mask := range []uint64{0, 1, 2, 99, allBits} {
			wantDo(t, c.text, x, crash(mask), 0, c.awakens)
			wantDo(t, c.text, x, crash(^mask), 0, c.awakens)
			wantDo(t, c.text, x, run(99), c.took-c.sure, c.last)
		}
	}
}

// TestNeverCommitted: a crash lets it begin anew, but for what was printed.
func TestNeverCommitted(t *testing.T) {
	text := "let a 1 let b 1 (read a) (print (var a)) (read b) (print (var b)) (commit)"
	x := bornOf(t, text, 4, 5)
	wantDo(t, "at its beginning", x, crash(allBits), 0, goesOn(nil, 0, 0))
	var out []int64
	for n := 1; n <= 6; n++ {
		if n == 3 || n == 6 {
			out = append(out, int64(3+n/3))
		}
		x.Do(run(n))
		wantDo(t, fmt.Sprint("behind ", n), x, crash(uint64(n)), 0, goesOn(out, 0, 0))
		wantDo(t, fmt.Sprint("behind a crash behind ", n), x, crash(0), 0, goesOn(out, 0, 0))
		if x.Gen() != 0 || x.Load(0) != 0 || x.Load(2) != 0 || x.Load(3) != 0 {
			t.Errorf("behind a crash behind %d it does not begin anew", n)
		}
	}
	wantDo(t, "at last", x, run(8), 8, ended(nums(4, 5), 4, 5))
}

// TestWithoutAnything: no variables and no statements.
func TestWithoutAnything(t *testing.T) {
	for _, p := range []api.Program{{}, {Vars: []api.Var{}, Body: []api.Stmt{}}} {
		x := born(t, p)
		wantNow(t, "new", x, goesOn(nil))
		wantDo(t, "new", x, run(0), 0, goesOn(nil))
		wantDo(t, "its end", x, tear(9, 0, 0), 1, ended(nil))
		wantDo(t, "a crash", x, crash(9), 0, goesOn(nil))
		wantDo(t, "its end", x, run(1), 1, ended(nil))
		wantRun(t, "nothing", p, nil, nil, 0, goesOn(nil))
		wantRun(t, "nothing", p, nil, nil, 1, ended(nil))
		wantRun(t, "nothing", p, nums(1, 2), steps(run(1), crash(0)), 0, goesOn(nil))
	}
	x := bornOf(t, "let a 47 let b 1 (set b (num 5))")
	cells := make([]int64, 48)
	wantNow(t, "all cells", x, goesOn(nil, cells...))
	cells[47] = 5
	wantDo(t, "all cells", x, run(9), 3, ended(nil, cells...))
}

// TestLongestInput: of MaxInput numbers all are read, each once, however often it crashes; of one more there is no life.
func TestLongestInput(t *testing.T) {
	p := program(t, "let a 1 (while (num 1) ((read a) (print (var a)) (commit)))")
	input := counted(api.MaxInput)
	want := stopped(api.ErrInput, input, input[api.MaxInput-1])
	wantRun(t, "at once", p, input, nil, api.MaxFuel, want)
	wantRun(t, "torn", p, input, slices.Repeat(steps(tear(99, 1, 1), tear(99, 1, 0)), 50), api.MaxFuel, want)
	wantRun(t, "crashed", p, input, slices.Repeat(steps(run(9), crash(1)), 50), api.MaxFuel, want)
	for _, n := range []int{api.MaxInput + 1, api.MaxInput + 2, 5000} {
		wantNone(t, "input too long", p, counted(n), api.ErrRange)
	}
	x, c := life.New(p, counted(5000)[:api.MaxInput])
	if c != 0 || x == nil {
		t.Errorf("as many numbers as may be, and more behind them: code %d", c)
	}
}

// TestMostSteps: MaxSteps, and not one more.
func TestMostSteps(t *testing.T) {
	p := program(t, "let a 1 (while (num 1) ((set a (add (var a) (num 1)))))")
	for _, n := range []int{0, 1, 99, api.MaxSteps} {
		wantRun(t, "steps", p, nil, slices.Repeat(steps(run(7)), n), 0, goesOn(nil, int64(n)))
		wantRun(t, "crashes", p, nil, slices.Repeat(steps(crash(0)), n), 7, goesOn(nil, 1))
	}
	for _, n := range []int{api.MaxSteps + 1, api.MaxSteps + 2, 5000} {
		wantNoRun(t, "steps", p, nil, slices.Repeat(steps(run(7)), n), 0, api.ErrMany)
		wantNoRun(t, "crashes", p, nil, slices.Repeat(steps(crash(0)), n), 0, api.ErrMany)
	}
	wantRun(t, "a part of a list", p, nil, slices.Repeat(steps(run(7)), 5000)[:api.MaxSteps], 0, goesOn(nil, 100))
	// Of a life that is asked step by step there may be as many as one likes.
	x := born(t, p)
	for range 3 * api.MaxSteps {
		x.Do(run(7))
	}
	wantNow(t, "more steps", x, goesOn(nil, 300))
}

// TestEachBit: of a mask; it is the first one that keeps a root, and pages that stay without it make nothing sure.
func TestEachBit(t *testing.T) {
	for bit := range 64 {
		for k := range 8 {
			x := bornOf(t, twoCommits, 7, 8)
			x.Do(tear(99, k, 1<<bit))
			want := k == 0 || k == 1 && bit == 0
			if done := x.Gen() == 1; done != want {
				t.Errorf("K %d, bit %d: is it done? %v, want %v", k, bit, done, want)
			}
			wantDo(t, "at last", x, run(99), 11-4*int(x.Gen()), ended(nums(7, 8), 9, 8))
		}
	}
}
