package machine_test

import (
	"slices"
	"testing"

	"overwinter/api"
	"overwinter/code"
	"overwinter/compile"
	"overwinter/disk"
	"overwinter/machine"
	"overwinter/memory"
	"overwinter/parse"
	"overwinter/store"
)

// Where the document says that things stand in a memory.
const (
	wordNext    = 0
	wordHeight  = 1
	wordRead    = 2
	wordPrinted = 3
	wordState   = 4
	wordCells   = 5
	wordStack   = 5 + 48
	wordBehind  = 5 + 48 + 24
)

// enough: more instructions than a program of a test takes.
const enough = 20000

func program(t *testing.T, text string) api.Program {
	t.Helper()
	p, f := parse.Parse(text)
	if f.Code != 0 {
		t.Fatalf("a test is written wrong: %v of %s", f, text)
	}
	return p
}

func instructions(t *testing.T, p api.Program) []compile.Ins {
	t.Helper()
	l, c := compile.Make(p)
	if c != 0 {
		t.Fatalf("a test is written wrong: %d of %v", c, p)
	}
	return l
}

// rig: a machine, and all that it stands on.
type rig struct {
	*machine.Machine
	disk    *disk.Disk
	memory  *memory.Memory
	printer *machine.Printer
	code    []compile.Ins
	input   []int64
	cells   int
}

func newRig(t *testing.T, p api.Program, input ...int64) *rig {
	t.Helper()
	r := &rig{disk: disk.New(), printer: &machine.Printer{}, code: instructions(t, p), input: input, cells: code.Cells(p)}
	r.wake()
	return r
}

// rigOf: of a program that is written in a text.
func rigOf(t *testing.T, text string, input ...int64) *rig {
	t.Helper()
	return newRig(t, program(t, text), input...)
}

// wake: another machine on what is opened of the disk.
func (r *rig) wake() {
	r.memory = memory.New(store.Open(r.disk))
	r.again()
}

// again: another machine on the same memory.
func (r *rig) again() {
	r.Machine = machine.New(r.memory, r.code, r.input, r.printer)
}

// run: to its end; it tells how many instructions that took.
func (r *rig) run(t *testing.T) int {
	t.Helper()
	n := 0
	for r.Step() {
		if n++; n > enough {
			t.Fatalf("it does not end: %v", r.code)
		}
	}
	return n
}

func (r *rig) steps(t *testing.T, n int) {
	t.Helper()
	for i := range n {
		if !r.Step() {
			t.Fatalf("step %d of %d: false, want true", i, n)
		}
	}
}

// toCommit: to just ahead of a commit.
func (r *rig) toCommit(t *testing.T) {
	t.Helper()
	for n := 0; !r.Commits(); n++ {
		if n > enough || !r.Step() {
			t.Fatalf("no commit comes: %v", r.code)
		}
	}
}

func (r *rig) result() api.Result { return r.Result(r.cells) }

func sameResult(a, b api.Result) bool {
	return a.Code == b.Code && slices.Equal(a.Out, b.Out) && slices.Equal(a.Cells, b.Cells)
}

func wantResult(t *testing.T, name string, got, want api.Result) {
	t.Helper()
	if !sameResult(got, want) {
		t.Errorf("%s: %v, want %v", name, got, want)
	}
}

// known: all that a machine knows, as it stands in its memory.
type known struct {
	next, read, printed, state int64
	cells                      []int64 // the first ones
	stack                      []int64
}

// wantKnown: and no other word is said to be anything but 0, but those of the stack on which nothing stands.
func wantKnown(t *testing.T, name string, m *memory.Memory, want known) {
	t.Helper()
	regs := []int64{want.next, int64(len(want.stack)), want.read, want.printed, want.state}
	all := m.All()
	if !slices.Equal(all[:wordCells], regs) {
		t.Errorf("%s: next, height, read, printed, state: %v, want %v", name, all[:wordCells], regs)
	}
	cells := make([]int64, api.MaxCells)
	copy(cells, want.cells)
	if !slices.Equal(all[wordCells:wordStack], cells) {
		t.Errorf("%s: cells: %v, want %v", name, all[wordCells:wordStack], cells)
	}
	if got := all[wordStack : wordStack+len(want.stack)]; !slices.Equal(got, want.stack) {
		t.Errorf("%s: stack: %v, want %v", name, got, want.stack)
	}
	if behind := all[wordBehind:]; slices.ContainsFunc(behind, func(w int64) bool { return w != 0 }) {
		t.Errorf("%s: behind the stack: %v, want noughts", name, behind)
	}
}

func TestPlacesInMemory(t *testing.T) {
	if api.Regs != wordCells || api.Regs+api.MaxCells != wordStack || api.Regs+api.MaxCells+api.StackSize != wordBehind {
		t.Error("the words of a memory are parted in another way")
	}
}

func TestNewDoesNothing(t *testing.T) {
	r := rigOf(t, "let a 2 (print (num 5)) (commit)")
	for range 3 {
		r.again()
		wantKnown(t, "new", r.memory, known{})
	}
	if r.Memory != r.memory {
		t.Error("it has another memory than the one that it was given")
	}
	if len(r.Dirty()) != 0 || r.Gen() != 0 || r.disk.Wait() != 0 {
		t.Error("New changed something")
	}
	if r.Torn() || r.Commits() {
		t.Errorf("Torn %v, Commits %v, want false", r.Torn(), r.Commits())
	}
	wantPrinter(t, "new", r.printer, 0)
	wantResult(t, "new", r.Result(2), api.Result{Code: api.ErrFuel, Cells: []int64{0, 0}})
}

// TestIsAMemory: what the memory promises, the machine has.
func TestIsAMemory(t *testing.T) {
	r := rigOf(t, "let a 1 (set a (num 6)) (commit)")
	r.steps(t, 2)
	if r.Load(wordCells) != 6 || r.memory.Load(wordCells) != 6 || r.All()[wordCells] != 6 {
		t.Error("Load and All tell another word than the memory")
	}
	if len(r.Dirty()) == 0 || len(r.Dirty()) != len(r.memory.Dirty()) {
		t.Errorf("Dirty: %v, the memory's %v", r.Dirty(), r.memory.Dirty())
	}
	if !r.Put(wordCells, 7) || r.memory.Load(wordCells) != 7 || r.Result(1).Cells[0] != 7 {
		t.Error("Put of the machine is none of its memory")
	}
	r.steps(t, 1)
	if r.Gen() != 1 || r.memory.Gen() != 1 || r.Read(0)[wordCells] != 7 || r.memory.Read(0)[wordCells] != 7 {
		t.Error("Gen and Read tell something else than the memory's")
	}
	r.memory.Put(wordCells, 8)
	if !r.Sync(-1) || r.memory.Gen() != 2 || r.memory.Read(0)[wordCells] != 8 {
		t.Error("Sync of the machine is none of its memory")
	}
}

// TestPrograms: gone through to their end, or to where they stop.
func TestPrograms(t *testing.T) {
	type numbers = []int64
	for _, c := range []struct {
		text  string
		input numbers
		took  int
		want  api.Result
	}{
		{"", nil, 1, api.Result{}},
		{"let a 3", nil, 1, api.Result{Cells: numbers{0, 0, 0}}},
		{"(print (num 5)) (commit)", nil, 4, api.Result{Out: numbers{5}}},
		{"let a 1 (set a (num 4)) (print (var a)) (set a (add (var a) (var a))) (print (var a))", nil, 11, api.Result{Out: numbers{4, 8}, Cells: numbers{8}}},
		{"let a 2 let b 1 (set b (num 9)) (put a (num 1) (var b)) (print (get a (num 1)))", nil, 9, api.Result{Out: numbers{9}, Cells: numbers{0, 9, 9}}},
		// Three rounds of eleven instructions, and a fourth one that only asks.
		{"let a 1 (while (less (var a) (num 3)) ((print (var a)) (set a (add (var a) (num 1)))))", nil, 3*11 + 4 + 1, api.Result{Out: numbers{0, 1, 2}, Cells: numbers{3}}},
		{"(while (num 0) ((print (num 1))))", nil, 3, api.Result{}},
		{"(if (num 1) ((print (num 5))) ((print (num 6)))) (print (num 7))", nil, 8, api.Result{Out: numbers{5, 7}}},
		{"(if (num 0) ((print (num 5))) ((print (num 6)))) (print (num 7))", nil, 7, api.Result{Out: numbers{6, 7}}},
		{"(if (num 0) ((print (num 5))) ()) (if (num 1) () ((print (num 6))))", nil, 6, api.Result{}},
		{"let a 1 let s 1 (read a) (while (var a) ((set s (add (var s) (var a))) (commit) (read a))) (print (var s))", numbers{4, -1, 9, 0}, 1 + 3*9 + 2 + 3, api.Result{Out: numbers{12}, Cells: numbers{0, 12}}},
		{"let a 1 let s 1 (read a) (while (var a) ((set s (add (var s) (var a))) (read a)))", numbers{4, -1}, 1 + 6 + 8 + 1, api.Result{Code: api.ErrInput, Cells: numbers{-1, 3}}},
		{"let a 3 let i 1 (while (num 1) ((put a (var i) (mul (var i) (var i))) (print (get a (var i))) (set i (add (var i) (num 1)))))", nil, 3*15 + 2 + 5, api.Result{Code: api.ErrIndex, Out: numbers{0, 1, 4}, Cells: numbers{0, 1, 4, 3}}},
		{"let n 1 let a 1 let b 1 let c 1 (read n) (set b (num 1)) (while (var n) ((print (var a)) (set c (add (var a) (var b))) (set a (var b)) (set b (var c)) (set n (sub (var n) (num 1)))))", numbers{8}, 1 + 2 + 8*17 + 2 + 1, api.Result{Out: numbers{0, 1, 1, 2, 3, 5, 8, 13}, Cells: numbers{0, 21, 34, 34}}},
	} {
		r := rigOf(t, c.text, c.input...)
		if n := r.run(t); n != c.took {
			t.Errorf("%s: it took %d instructions, want %d", c.text, n, c.took)
		}
		wantResult(t, c.text, r.result(), c.want)
		if r.Torn() || r.Commits() || r.printer.Code() != 0 {
			t.Errorf("%s: Torn %v, Commits %v, code of the Printer %d", c.text, r.Torn(), r.Commits(), r.printer.Code())
		}
	}
}

// TestCommits: just if it goes on, and ICommit comes.
func TestCommits(t *testing.T) {
	for _, text := range []string{
		"(commit)",
		"let a 1 (commit) (set a (num 1)) (commit) (commit) (print (var a))",
		"let a 1 (while (less (var a) (num 3)) ((commit) (set a (add (var a) (num 1))))) (if (var a) ((commit)) ())",
		"let a 1 (read a) (commit)",
		"let a 2 (put a (num 2) (num 5)) (commit)",
		"let a 2 (print (get a (num -1))) (commit)",
		"",
	} {
		r := rigOf(t, text)
		for n := 0; n < enough; n++ {
			want := r.Load(wordState) == 0 && r.code[r.Load(wordNext)].Op == compile.ICommit
			gen := r.Gen()
			if got := r.Commits(); got != want || r.Gen() != gen {
				t.Errorf("%s: behind %d instructions: Commits: %v, want %v", text, n, got, want)
			}
			if !r.Step() {
				break
			}
			if done := r.Gen() - gen; done == 1 != want || done > 1 {
				t.Errorf("%s: instruction %d: %d commits", text, n, done)
			}
		}
	}
	r := rigOf(t, "let a 1 (read a) (commit)")
	r.steps(t, 1)
	if r.code[r.Load(wordNext)].Op != compile.ICommit || r.Commits() || r.Step() || r.Gen() != 0 {
		t.Error("it stopped just ahead of a commit, and is to commit all the same")
	}
}

// TestDoesNothing: a machine whose state is not 0.
func TestDoesNothing(t *testing.T) {
	for text, code := range map[string]int{
		"":                                 0,
		"let a 1 (set a (num 5)) (commit)": 0,
		"let a 1 (set a (num 5)) (print (num 3))":                                     0,
		"let a 1 (read a) (read a) (read a) (commit)":                                 api.ErrInput,
		"let a 2 (print (num 3)) (put a (num 2) (num 5)) (print (num 4))":             api.ErrIndex,
		"let a 2 (commit) (print (get a (num -1))) (commit) (set a (num 7))":          api.ErrIndex,
		"let a 2 (while (num 1) ((if (get a (num 2)) ((commit)) ((print (num 1))))))": api.ErrIndex,
	} {
		r := rigOf(t, text, 8, 9)
		r.run(t)
		words, dirty, result, gen, waits := r.All(), r.Dirty(), r.Result(api.MaxCells), r.Gen(), r.disk.Wait()
		if result.Code != code {
			t.Errorf("%s: code %d, want %d", text, result.Code, code)
		}
		for i := range 5 {
			if i == 2 {
				r.Tear(3)
			}
			if i == 3 {
				r.again()
			}
			if r.Step() || r.Commits() || r.Torn() {
				t.Errorf("%s: Step, Commits or Torn is true behind its end", text)
			}
			if !slices.Equal(r.All(), words) || !slices.Equal(r.Dirty(), dirty) || r.Gen() != gen || r.disk.Wait() != waits {
				t.Errorf("%s: something is done behind its end", text)
			}
			wantResult(t, text, r.Result(api.MaxCells), result)
		}
	}
}

// TestAnyState: each state that is not 0 says that it does not go on.
func TestAnyState(t *testing.T) {
	for code := 1; code <= api.ErrOther; code++ {
		r := rigOf(t, "let a 1 (commit) (set a (num 5))")
		r.Put(wordState, int64(2+code))
		if r.Step() || r.Commits() || r.Load(wordNext) != 0 {
			t.Errorf("state %d: it goes on", 2+code)
		}
		if got := r.Result(0).Code; got != code {
			t.Errorf("state %d: code %d, want %d", 2+code, got, code)
		}
	}
}
