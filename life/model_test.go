package life_test

import (
	"fmt"
	"slices"
	"testing"

	"overwinter/api"
	"overwinter/compile"
	"overwinter/disk"
	"overwinter/ideal"
	"overwinter/life"
	"overwinter/machine"
	"overwinter/memory"
	"overwinter/store"
)

// course: what a program comes to without crashes, behind each instruction.
type course struct {
	program api.Program
	input   []int64
	at      []api.Result // behind so many instructions, as ideal.Run tells
	commits []bool       // is a commit the instruction that comes then?
	ends    bool         // is it at its end behind the last one?
}

// newCourse: of so many instructions at most.
func newCourse(t *testing.T, p api.Program, input []int64, longest int) *course {
	t.Helper()
	l, c := compile.Make(p)
	if c != 0 {
		t.Fatalf("a test is written wrong: %d of %v", c, p)
	}
	m := machine.New(memory.New(store.Open(disk.New())), l, input, &machine.Printer{})
	x := &course{program: p, input: input}
	for fuel := range longest + 1 {
		r, took, _ := ideal.Run(p, input, fuel)
		if took < fuel {
			x.ends = true
			break
		}
		x.at = append(x.at, r)
		x.commits = append(x.commits, m.Commits())
		m.Step()
	}
	return x
}

func (x *course) took() int { return len(x.at) - 1 }

func (x *course) last() api.Result { return x.at[x.took()] }

// model: how far a life is in its course; nothing else can be known of it, as all that is done hangs on that.
type model struct {
	*course
	now, sure, furthest int
	gen                 int64
}

// do tells how many instructions a step does.
func (m *model) do(s api.Step) int {
	if s.Kind == api.LCrash {
		m.now = m.sure
		return 0
	}
	for n := range s.N {
		if m.now == m.took() {
			return n
		}
		commits := m.commits[m.now]
		m.now++
		m.furthest = max(m.furthest, m.now)
		whole := s.Kind == api.LRun || s.K == 0 || s.K == 1 && s.Mask&1 == 1
		if commits && whole {
			m.sure = m.now
			m.gen++
		}
		if commits && s.Kind == api.LTear {
			m.now = m.sure
			return n + 1
		}
	}
	return s.N
}

func (m *model) result() api.Result {
	r := m.at[m.now]
	r.Out = m.at[m.furthest].Out
	return r
}

// wantModel: a life that does a step is what the model is.
func wantModel(t *testing.T, name string, x *life.Life, m *model, s api.Step) {
	t.Helper()
	n := m.do(s)
	if got, c := x.Do(s); got != n || c != 0 {
		t.Fatalf("%s: Do of %v: %d, code %d, want %d, code 0", name, s, got, c, n)
	}
	if got, want := x.Now(), m.result(); !sameResult(got, want) {
		t.Fatalf("%s: behind %v: %v, want %v", name, s, got, want)
	}
	if x.Commits() != m.commits[m.now] || x.Gen() != m.gen || x.Torn() {
		t.Fatalf("%s: behind %v: Commits %v, Gen %d, Torn %v, want %v, %d, false", name, s, x.Commits(), x.Gen(), x.Torn(), m.commits[m.now], m.gen)
	}
	if last, out := m.last().Out, x.Now().Out; len(out) > len(last) || !slices.Equal(out, last[:len(out)]) {
		t.Fatalf("%s: behind %v: %v was printed, which does not begin %v", name, s, out, last)
	}
}

// wantLife: of steps, one by one, and at last of as many instructions as it takes without crashes; and of Run.
func wantLife(t *testing.T, name string, c *course, l ...api.Step) {
	t.Helper()
	name = fmt.Sprintf("%s: %v", name, l)
	x, m := born(t, c.program, c.input...), &model{course: c}
	for _, s := range l {
		wantModel(t, name, x, m, s)
	}
	wantModel(t, name, x, m, run(c.took()))
	wantNow(t, name, x, c.last())
	wantRun(t, name, c.program, c.input, l, c.took(), c.last())
}

// lives: programs that commit, print and read, each with an input.
func lives() map[string][]int64 {
	deep := "(num 1)"
	for range api.MaxDeep - 1 {
		deep = "(add (num 1) " + deep + ")"
	}
	return map[string][]int64{
		// In all pages that a program can change.
		"let a 47 let i 1 (while (less (var i) (num 47)) ((put a (var i) (var i)) (set i (add (var i) (num 6))))) (print " + deep + ") (commit) (print (var i))": nil,
		"":                         nil,
		"let a 48":                 nil,
		"(commit)":                 nil,
		"(print (num 5)) (commit)": nil,
		"(commit) (commit) (print (num 1)) (commit)":                                                                                                                                           nil,
		"let a 1 (print (num 5)) (commit) (print (num 6)) (commit) (print (num 5))":                                                                                                            nil,
		"let a 1 let b 1 (read a) (commit) (read b) (print (sub (var a) (var b))) (commit)":                                                                                                    nums(7, 9),
		"let a 1 let b 1 (read a) (read b) (commit) (print (add (var a) (var b)))":                                                                                                             nums(7, 9),
		"let a 1 let b 1 (read a) (print (var a)) (read b) (print (var b)) (set a (mul (var a) (var b)))":                                                                                      nums(7, 9),
		"let a 1 (while (less (var a) (num 4)) ((set a (add (var a) (num 1))) (print (var a)) (commit)))":                                                                                      nil,
		"let a 1 let s 1 (read a) (while (var a) ((set s (add (var s) (var a))) (if (less (var a) (num 5)) ((commit) (print (var s))) ((print (num 0)))) (read a)))":                           nums(4, 9, 3, 2, 0),
		"let a 47 let i 1 (while (less (var i) (num 47)) ((put a (var i) (mul (var i) (var i))) (set i (add (var i) (num 9))) (print (var i)) (if (less (var i) (num 20)) () ((commit)))))":    nil,
		"let a 2 (set a (num 3)) (commit) (print (num 1)) (put a (var a) (num 5)) (commit)":                                                                                                    nil,
		"let a 2 (print (num 1)) (commit) (set a (get a (num 2))) (commit)":                                                                                                                    nil,
		"let a 2 (read a) (print (var a)) (commit) (read a) (print (var a)) (commit) (read a)":                                                                                                 nums(1, 2),
		"let a 2 (read a) (print (var a)) (read a) (commit)":                                                                                                                                   nums(1),
		"let a 3 let i 1 (while (less (var i) (num 3)) ((commit) (put a (var i) (add (num 1) (add (num 2) (get a (num 0))))) (print (get a (var i))) (set i (add (var i) (num 1))))) (commit)": nil,
	}
}

func eachCourse(t *testing.T, do func(t *testing.T, name string, c *course)) {
	for text, input := range lives() {
		c := newCourse(t, program(t, text), input, 500)
		if !c.ends {
			t.Fatalf("a test is written wrong: %s does not end", text)
		}
		do(t, text, c)
	}
}

func masks() []uint64 { return []uint64{0, 1, allBits} }

// TestWithoutCrashes: one instruction a step, some, or all at once.
func TestWithoutCrashes(t *testing.T) {
	eachCourse(t, func(t *testing.T, name string, c *course) {
		wantLife(t, name, c)
		for by := 1; by <= c.took()+1; by = by*2 + 1 {
			wantLife(t, name, c, slices.Repeat(steps(run(by)), min(c.took()/by, api.MaxSteps))...)
		}
	})
}

// TestCrashBetweenAnyTwo: ahead of each instruction, and behind the last one.
func TestCrashBetweenAnyTwo(t *testing.T) {
	eachCourse(t, func(t *testing.T, name string, c *course) {
		for n := range c.took() + 1 {
			for _, mask := range masks() {
				wantLife(t, name, c, run(n), crash(mask))
			}
			wantLife(t, name, c, run(n), crash(0), crash(allBits))
			wantLife(t, name, c, run(n), crash(1), run(n), crash(0))
			wantLife(t, name, c, run(n), crash(0), tear(n, 1, 1))
		}
	})
}

// deeds: how many the commit has that comes.
func deeds(x *life.Life) int {
	n := len(x.Dirty())
	if n == 0 || x.Dirty()[0].N != 0 {
		n++ // the commit itself changes which instruction comes
	}
	return n + api.TableSize + 3
}

// TestTearOfEachCommit: with each number of deeds, and one more, left out.
func TestTearOfEachCommit(t *testing.T) {
	torn, fewest, greatest := 0, 99, 0
	eachCourse(t, func(t *testing.T, name string, c *course) {
		behind := 0
		for n, commits := range c.commits {
			if !commits {
				continue
			}
			x := born(t, c.program, c.input...)
			x.Do(run(n))
			all := deeds(x)
			fewest, greatest = min(fewest, all), max(greatest, all)
			for k := range all + 2 {
				for _, mask := range masks() {
					wantLife(t, name, c, run(n), tear(1, k, mask))
					wantLife(t, name, c, run(n), tear(c.took(), k, mask))
					wantLife(t, name, c, run(behind), tear(n+1-behind, k, mask))
					wantLife(t, name, c, run(behind), tear(api.MaxFuel, k, mask), crash(allBits), tear(api.MaxFuel, 1, 1), crash(0))
					torn++
				}
			}
			behind = n + 1
		}
	})
	if torn < 300 || fewest != 6 || greatest != 14 {
		t.Errorf("%d tears of %d to %d deeds: too few", torn, fewest, greatest)
	}
}

// TestTearAgainAndAgain: of all commits of a life, whatever became of those ahead.
func TestTearAgainAndAgain(t *testing.T) {
	eachCourse(t, func(t *testing.T, name string, c *course) {
		for k := range 4 {
			for _, mask := range masks() {
				wantLife(t, name, c, slices.Repeat(steps(tear(c.took(), k, mask)), 20)...)
				wantLife(t, name, c, slices.Repeat(steps(tear(c.took(), 1, 1), tear(c.took(), k, mask), crash(mask)), 15)...)
				wantLife(t, name, c, slices.Repeat(steps(tear(c.took(), k, mask), run(2), tear(c.took(), 1, 0), run(5), crash(1)), 15)...)
			}
		}
	})
}

// TestEnough: the last instructions must be as many as the whole takes, only if nothing was committed; with one less than are left it goes on.
func TestEnough(t *testing.T) {
	eachCourse(t, func(t *testing.T, name string, c *course) {
		for n := range c.took() + 1 {
			m := &model{course: c}
			m.do(run(n))
			m.do(crash(0))
			left := c.took() - m.sure
			wantRun(t, name, c.program, c.input, steps(run(n), crash(0)), left, c.last())
			r, code := life.Run(c.program, c.input, steps(run(n), crash(0)), left-1)
			if r.Code != api.ErrFuel || code != 0 {
				t.Errorf("%s: with one instruction less than it takes behind a crash behind %d: %v, code %d", name, n, r, code)
			}
		}
	})
}
