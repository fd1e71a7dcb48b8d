package desk_test

import (
	"fmt"
	"math"
	"slices"
	"strings"
	"testing"

	"overwinter/api"
	"overwinter/desk"
	"overwinter/life"
	"overwinter/parse"
)

const (
	least = math.MinInt64
	most  = math.MaxInt64
)

func lines(l ...string) []string { return l }

// told: things, each ended by a newline.
func told(l ...string) string {
	var s string
	for _, x := range l {
		s += x + "\n"
	}
	return s
}

// texts: the lines that lay a text.
func texts(l ...string) []string {
	var out []string
	for _, s := range l {
		out = append(out, "|"+s)
	}
	return out
}

// wantDo: of these lines just that is told, and no fault.
func wantDo(t *testing.T, d *desk.Desk, l []string, want string) {
	t.Helper()
	if got, f := d.Do(l); got != want || f != (api.Fault{}) {
		t.Errorf("%q:\n%q, fault %v, want\n%q, no fault", l, got, f, want)
	}
}

// wantLine: of one line just these things are told.
func wantLine(t *testing.T, d *desk.Desk, line string, want ...string) {
	t.Helper()
	wantDo(t, d, lines(line), told(want...))
}

// wantFault: nothing is told but the fault.
func wantFault(t *testing.T, d *desk.Desk, l []string, code, at int) {
	t.Helper()
	if got, f := d.Do(l); got != "" || f != (api.Fault{Code: code, At: at}) {
		t.Errorf("%d lines: %q, fault %v, want nothing, {%d %d}", len(l), got, f, code, at)
	}
}

// laid: a desk on which a text lies, and an input.
func laid(t *testing.T, text, input string) *desk.Desk {
	t.Helper()
	d := desk.New()
	wantDo(t, d, append(texts(strings.Split(text, "\n")...), strings.TrimSuffix("input "+input, " ")), "")
	return d
}

// booted: and with a life of it.
func booted(t *testing.T, text, input string) *desk.Desk {
	t.Helper()
	d := laid(t, text, input)
	wantLine(t, d, "boot", "ok")
	return d
}

// Two commits: the first is the fourth instruction, the second the eighth; then the end.
const twoCommits = "let a 1\nlet b 1\n(read a) (print (var a)) (commit)\n(read b) (print (var b)) (commit)"

// TestEachLine: each of the chapter's table, word for word.
func TestEachLine(t *testing.T) {
	d := desk.New()
	wantLine(t, d, "|let a 2")
	wantLine(t, d, "|(read a) (print (var a)) (commit) (put a (num 1) (num -3)) (print (get a (num 1)))")
	wantLine(t, d, "input 7 8 -9")
	wantLine(t, d, "ideal 99", "took 11", "code 0", "out 7 -3", "cells 7 -3")
	wantLine(t, d, "ideal 4", "took 4", "code 13", "out 7", "cells 7 0")
	wantLine(t, d, "boot", "ok")
	wantLine(t, d, "now", "code 13", "out", "cells 0 0")
	wantLine(t, d, "run 3", "did 3")
	wantLine(t, d, "now", "code 13", "out 7", "cells 7 0")
	wantLine(t, d, "crash 1", "did 0")
	wantLine(t, d, "now", "code 13", "out 7", "cells 0 0")
	wantLine(t, d, "tear 99 1 1", "did 4")
	wantLine(t, d, "now", "code 13", "out 7", "cells 7 0")
	wantLine(t, d, "run 99", "did 7")
	wantLine(t, d, "now", "code 0", "out 7 -3", "cells 7 -3")
	wantLine(t, d, "new")
	wantLine(t, d, "ideal 9", "took 1", "code 0", "out", "cells")
	wantLine(t, d, "now", "code 0", "out 7 -3", "cells 7 -3")
	wantLine(t, d, "boot", "ok")
	wantLine(t, d, "now", "code 13", "out", "cells")
}

// TestNothingAtFirst: a new desk has no lines, no input, no life.
func TestNothingAtFirst(t *testing.T) {
	d := desk.New()
	wantDo(t, d, lines("now", "run 1", "crash 0", "tear 1 1 1"), told("what", "what", "what", "what"))
	wantLine(t, d, "ideal 5", "took 1", "code 0", "out", "cells")
	wantDo(t, d, lines("|let a 1 (read a)", "ideal 5"), told("took 1", "code 12", "out", "cells 0"))
}

// TestAnotherText: several lines, new behind them, and another text.
func TestAnotherText(t *testing.T) {
	d := desk.New()
	wantDo(t, d, lines("|let a 1", "|(set a (num 5))", "|(print (var a))", "ideal 99"), told("took 5", "code 0", "out 5", "cells 5"))
	wantDo(t, d, lines("|(print (num 6))", "ideal 99"), told("took 7", "code 0", "out 5 6", "cells 5"))
	wantDo(t, d, lines("new", "|let b 2", "|(print (num 7))", "ideal 99"), told("took 3", "code 0", "out 7", "cells 0 0"))
	wantDo(t, d, lines("new", "new", "ideal 99"), told("took 1", "code 0", "out", "cells"))
	wantDo(t, d, lines("|let a 1", "new", "|(print (var a))", "ideal 99"), told("no 10 12"))
}

// TestNewlinesBetween: the lines of the text are one behind the other, with a newline between two, none ahead of the first and none behind the last one.
func TestNewlinesBetween(t *testing.T) {
	for _, c := range []struct {
		l    []string
		want string
	}{
		{lines("(commit"), "no 6 7"},
		{lines("", "(commit"), "no 6 8"},
		{lines("(commit", ""), "no 6 8"},
		{lines("(commit", "", ""), "no 6 9"},
		{lines("(", "commit"), "no 6 8"},
		{lines("(com", "mit)"), "no 5 1"},
		{lines("(commit)", ")"), "no 5 9"},
		{lines("let a 1", "let b 2 (commit) x"), "no 5 25"},
		{lines("let a 1", "", "(read b)"), "no 10 15"},
		{lines("let a 1", "2"), "no 5 8"},
		{lines("(commit)", "  # "), "no 7 11"},
	} {
		d := desk.New()
		wantDo(t, d, append(texts(c.l...), "boot", "ideal 5"), told(c.want, c.want))
		// The same, line by line, behind another text.
		d = laid(t, "let z 1\n\n(read z)", "")
		wantLine(t, d, "new")
		for _, s := range texts(c.l...) {
			wantLine(t, d, s)
		}
		wantLine(t, d, "ideal 5", c.want)
		wantLine(t, d, "boot", c.want)
	}
}

// TestTextTurnsBehindBoot: the life is one of the program that was.
func TestTextTurnsBehindBoot(t *testing.T) {
	d := booted(t, twoCommits, "7 8")
	wantDo(t, d, lines("run 4", "new", "|let c 3 (print (num 1))", "run 2", "now"), told("did 4", "did 2", "code 13", "out 7", "cells 7 8"))
	wantDo(t, d, lines("new", "|(", "crash 0", "run 99", "now"), told("did 0", "did 5", "code 0", "out 7 8", "cells 7 8"))
	wantDo(t, d, lines("new", "|let c 3 (print (num 1))", "boot", "now", "run 9", "now"), told("ok", "code 13", "out", "cells 0 0 0", "did 3", "code 0", "out 1", "cells 0 0 0"))
}

// TestBootAgain: another life, of the same text, at its beginning: nothing was printed, nothing is committed.
func TestBootAgain(t *testing.T) {
	d := booted(t, twoCommits, "7 8")
	for range 3 {
		wantDo(t, d, lines("run 6", "now"), told("did 6", "code 13", "out 7", "cells 7 8"))
		wantDo(t, d, lines("boot", "now"), told("ok", "code 13", "out", "cells 0 0"))
		wantDo(t, d, lines("crash -1", "now"), told("did 0", "code 13", "out", "cells 0 0"))
	}
	wantDo(t, d, lines("run 99", "now", "boot", "boot", "now"), told("did 9", "code 0", "out 7 8", "cells 7 8", "ok", "ok", "code 13", "out", "cells 0 0"))
}

// TestInputAheadAndBehind: a life has the input that was when it was booted; ideal has the one that is.
func TestInputAheadAndBehind(t *testing.T) {
	d := laid(t, twoCommits, "7 8")
	wantDo(t, d, lines("boot", "input 1 2", "ideal 99"), told("ok", "took 9", "code 0", "out 1 2", "cells 1 2"))
	wantDo(t, d, lines("run 99", "now"), told("did 9", "code 0", "out 7 8", "cells 7 8"))
	wantDo(t, d, lines("crash 0", "input", "run 99", "now"), told("did 0", "did 1", "code 0", "out 7 8", "cells 7 8"))
	wantDo(t, d, lines("ideal 99", "boot", "run 99", "now"), told("took 1", "code 12", "out", "cells 0 0", "ok", "did 1", "code 12", "out", "cells 0 0"))
	wantDo(t, d, lines("input 3", "input 4 5 6", "boot", "run 99", "now"), told("ok", "did 9", "code 0", "out 4 5", "cells 4 5"))
	// Another text has the same input; a new one is no line of the text.
	wantDo(t, d, lines("new", "|let c 1 (read c) (read c) (read c) (read c)", "ideal 99"), told("took 4", "code 12", "out", "cells 6"))
}

// TestIdealBesideALife: neither knows of the other.
func TestIdealBesideALife(t *testing.T) {
	d := booted(t, twoCommits, "7 8")
	for n, want := range [][]string{
		{"code 13", "out", "cells 0 0"},
		{"code 13", "out", "cells 7 0"},
		{"code 13", "out", "cells 7 0"},
		{"code 13", "out 7", "cells 7 0"},
		{"code 13", "out 7", "cells 7 0"},
		{"code 13", "out 7", "cells 7 8"},
		{"code 13", "out 7", "cells 7 8"},
		{"code 13", "out 7 8", "cells 7 8"},
		{"code 13", "out 7 8", "cells 7 8"},
		{"code 0", "out 7 8", "cells 7 8"},
	} {
		wantLine(t, d, "now", want...)
		for fuel := range 10 {
			if _, f := d.Do(lines(fmt.Sprint("ideal ", fuel))); f.Code != 0 {
				t.Errorf("fault %v", f)
			}
		}
		wantLine(t, d, fmt.Sprint("ideal ", n), append(lines(fmt.Sprint("took ", n)), want...)...)
		wantLine(t, d, "now", want...)
		wantLine(t, d, "run 1", fmt.Sprint("did ", min(1, 9-n)))
	}
}

// TestExamples: those of the document.
func TestExamples(t *testing.T) {
	// Two instructions print; the third one commits. Crashed ahead of it the program prints 5 again, and it is not printed twice.
	d := booted(t, "(print (num 5)) (commit)", "")
	wantDo(t, d, lines("run 1", "now", "run 1", "now"), told("did 1", "code 13", "out", "cells", "did 1", "code 13", "out 5", "cells"))
	wantDo(t, d, lines("crash -1", "now", "run 2", "now"), told("did 0", "code 13", "out 5", "cells", "did 2", "code 13", "out 5", "cells"))
	wantDo(t, d, lines("run 1", "crash 0", "run 9", "now"), told("did 1", "did 0", "did 1", "code 0", "out 5", "cells"))

	// A commit of one page has six deeds. Left off behind the fifth, it is done just if the root stays.
	for _, c := range []struct {
		line string
		left int
	}{
		{"tear 9 1 1", 1}, {"tear 9 1 -1", 1}, {"tear 9 1 3", 1}, {"tear 9 1 0", 2}, {"tear 9 1 -2", 2}, {"tear 9 1 2", 2},
		{"tear 9 0 0", 1}, {"tear 9 0 -1", 1}, {"tear 9 2 -1", 2}, {"tear 9 5 -1", 2}, {"tear 9 6 -1", 2}, {"tear 9 7 -1", 2},
	} {
		d = booted(t, "(commit)", "")
		wantDo(t, d, lines(c.line, "run 9", "now"), told("did 1", fmt.Sprint("did ", c.left), "code 0", "out", "cells"))
	}

	// One that reads two numbers and crashes between reads the first one again, if it did not commit.
	d = booted(t, "let a 1 let b 1\n(read a)\n(read b)\n(print (var a)) (print (var b))", "7 8")
	wantDo(t, d, lines("run 1", "now", "crash 0", "now", "run 99", "now"), told("did 1", "code 13", "out", "cells 7 0", "did 0", "code 13", "out", "cells 0 0", "did 7", "code 0", "out 7 8", "cells 7 8"))
	d = booted(t, "let a 1 let b 1\n(read a)\n(commit)\n(read b)\n(print (var a)) (print (var b))", "7 8")
	wantDo(t, d, lines("run 2", "crash 0", "now", "run 99", "now"), told("did 2", "did 0", "code 13", "out", "cells 7 0", "did 6", "code 0", "out 7 8", "cells 7 8"))
}

// resultOf: THE RESULT, as it is told.
func resultOf(r api.Result) string {
	s := fmt.Sprint("code ", r.Code, "\nout")
	for _, n := range r.Out {
		s += fmt.Sprint(" ", n)
	}
	s += "\ncells"
	for _, n := range r.Cells {
		s += fmt.Sprint(" ", n)
	}
	return s + "\n"
}

// stepsAsLines: some of each kind, and how package life calls them.
func stepsAsLines() map[string]api.Step {
	return map[string]api.Step{
		"run 0":         {Kind: api.LRun},
		"run 1":         {Kind: api.LRun, N: 1},
		"run 3":         {Kind: api.LRun, N: 3},
		"run 3000":      {Kind: api.LRun, N: 3000},
		"crash 0":       {Kind: api.LCrash},
		"crash -1":      {Kind: api.LCrash, Mask: math.MaxUint64},
		"tear 5 1 1":    {Kind: api.LTear, N: 5, K: 1, Mask: 1},
		"tear 5 1 0":    {Kind: api.LTear, N: 5, K: 1},
		"tear 2 0 0":    {Kind: api.LTear, N: 2},
		"tear 9 2 -1":   {Kind: api.LTear, N: 9, K: 2, Mask: math.MaxUint64},
		"tear 9 1 -2":   {Kind: api.LTear, N: 9, K: 1, Mask: math.MaxUint64 - 1},
		"tear 3000 7 1": {Kind: api.LTear, N: 3000, K: 7, Mask: 1},
	}
}

// TestStepsInAnyOrder: three of them one behind the other, and now behind each: told is what package life tells.
func TestStepsInAnyOrder(t *testing.T) {
	all := stepsAsLines()
	p, f := parse.Parse(twoCommits)
	if f.Code != 0 {
		t.Fatalf("a test is written wrong: %v", f)
	}
	for a := range all {
		for b := range all {
			for c := range all {
				d := booted(t, twoCommits, "7 8")
				x, _ := life.New(p, []int64{7, 8})
				for _, s := range lines("run 3", a, b, c, "run 3000") {
					step, ok := all[s]
					n, code := x.Do(step)
					if !ok || code != 0 {
						t.Fatalf("a test is written wrong: %s", s)
					}
					wantDo(t, d, lines(s, "now", "now"), fmt.Sprint("did ", n, "\n", resultOf(x.Now()), resultOf(x.Now())))
				}
				wantLine(t, d, "now", "code 0", "out 7 8", "cells 7 8")
			}
		}
	}
}

// TestTwoDoOrOne: what several tell one behind the other one tells of all their lines, wherever they are parted.
func TestTwoDoOrOne(t *testing.T) {
	all := slices.Concat(
		lines("now", "input 7 8", "ideal 3"), texts(strings.Split(twoCommits, "\n")...),
		lines("ideal 3", "", "boot", "run 3", "crash 0", "now", "what", "tear 9 1 1", "now", "new", "|(commit", "boot", "ideal 1", "run -1", "run 9", "now", "|)", "boot", "now", "tear 9 2 1", "run 9", "now", "input 9", "ideal -1", " |x"))
	whole := told("what", "took 1", "code 0", "out", "cells", "took 3", "code 13", "out 7", "cells 7 0", "ok", "did 3", "did 0",
		"code 13", "out 7", "cells 0 0", "what", "did 4", "code 13", "out 7", "cells 7 0", "no 6 7", "no 6 7", "no 1", "did 5",
		"code 0", "out 7 8", "cells 7 8", "ok", "code 13", "out", "cells", "did 1", "did 2", "code 0", "out", "cells", "no 1", "what")
	wantDo(t, desk.New(), all, whole)
	for i := range len(all) + 1 {
		for j := i; j <= len(all); j++ {
			d := desk.New()
			var parts string
			for _, l := range [][]string{all[:i], all[i:j], all[j:]} {
				s, f := d.Do(l)
				if f.Code != 0 {
					t.Errorf("parted at %d and %d: fault %v", i, j, f)
				}
				parts += s
			}
			if parts != whole {
				t.Errorf("parted at %d and %d:\n%q, want\n%q", i, j, parts, whole)
			}
		}
	}
	d := desk.New()
	var parts string
	for _, s := range all {
		x, _ := d.Do(lines(s))
		parts += x
	}
	if parts != whole {
		t.Errorf("line by line:\n%q, want\n%q", parts, whole)
	}
}
