package desk_test

import (
	"fmt"
	"slices"
	"strings"
	"testing"

	"overwinter/api"
	"overwinter/desk"
	"overwinter/parse"
)

// TestNoSuchWords: of each `what` is told, and nothing is done.
func TestNoSuchWords(t *testing.T) {
	for _, s := range lines("x", "what", "ok", "no", "did", "code", "out", "cells", "took", "lines", "text", "help", "halt", "step", "life", "print", "let",
		"New", "NEW", "Boot", "nows", "no w", "runs 1", "run1", "crash0", "tear911", "input7", "ideal3", "boots", "bootboot", "renew", "ne", "n", "boo",
		"_", "-", ".", "?", "#", "//", "/* now */", "now;", "now,", "(now)", "(commit)", "let a 1", "'now'", "\"now\"", "now\x00", "\x00", "\xff", "\xc3 ", "\u20ac", "ноw", "ｎｏｗ",
		strings.Repeat("x", 5000), strings.Repeat("now ", 500)) {
		d := booted(t, twoCommits, "7 8")
		wantLine(t, d, s, "what")
		wantDo(t, d, lines(s, "now", s), told("what", "code 13", "out", "cells 0 0", "what"))
		wantUntouched(t, d)
		wantLine(t, desk.New(), s, "what")
	}
}

// TestNumbersOfAWord: too few, too many, or a word among them.
func TestNumbersOfAWord(t *testing.T) {
	for word, n := range map[string]int{"new": 0, "boot": 0, "now": 0, "ideal": 1, "run": 1, "crash": 1, "tear": 3} {
		for m := range 8 {
			if m == n {
				continue
			}
			d := booted(t, twoCommits, "7 8")
			for _, number := range lines(" 0", " 1", " -1", " 9223372036854775807") {
				wantLine(t, d, word+strings.Repeat(number, m), "what")
			}
			wantUntouched(t, d)
		}
		for at := range n {
			for _, bad := range lines("x", "now", "run", "new", "a", "-", "\t", "1x", "x1") {
				behind := slices.Repeat(lines("1"), n)
				behind[at] = bad
				d := booted(t, twoCommits, "7 8")
				wantLine(t, d, word+" "+strings.Join(behind, " "), "what")
				wantUntouched(t, d)
			}
		}
		for _, more := range lines("x", "now", "boot", "new", "-", word) {
			d := booted(t, twoCommits, "7 8")
			wantLine(t, d, word+strings.Repeat(" 1", n)+" "+more, "what")
			wantLine(t, d, more+" "+word+strings.Repeat(" 1", n), "what")
			wantUntouched(t, d)
		}
	}
}

// TestNumbersForAWord: where a word should stand.
func TestNumbersForAWord(t *testing.T) {
	for _, s := range lines("0", "1", "-1", "7 8", "1 run", "1 now", "5 run 5", "9223372036854775807", "01", "0 0 0 0", "3 tear 9 1 1", "1 input 2") {
		d := booted(t, twoCommits, "7 8")
		wantLine(t, d, s, "what")
		wantUntouched(t, d)
	}
}

// TestNoLife: run, crash, tear and now, with numbers that would be a code, too.
func TestNoLife(t *testing.T) {
	all := lines("now", "run 0", "run 1", "run -1", "run 3001", "crash 0", "crash -1", "crash 9223372036854775807", "tear 1 1 1", "tear 0 0 0", "tear -1 -1 -1", "tear 3001 0 0", "  now  ", "  run  1  ")
	for _, ahead := range [][]string{
		nil,
		lines("new", "input 7 8"),
		texts(strings.Split(twoCommits, "\n")...),
		lines("new", "|(", "input"),
	} {
		d := desk.New()
		wantDo(t, d, ahead, "")
		for _, s := range all {
			wantLine(t, d, s, "what")
		}
		wantDo(t, d, all, strings.Repeat("what\n", len(all)))
	}
	// Neither what ideal did nor a boot that could not be makes one.
	d := desk.New()
	line, _ := inputOf(api.MaxInput + 1)
	wantDo(t, d, lines("ideal 5", "now", line, "boot", "now", "run 1", "input", "|)", "boot", "now", "crash 0"), told("took 1", "code 0", "out", "cells", "what", "no 1", "what", "what", "no 5 0", "what", "what"))
	wantDo(t, d, lines("new", "boot", "now"), told("ok", "code 13", "out", "cells"))
}

// faults: texts that are no programs, and what is told of them; of each code that there is.
func faults() map[string]string {
	deep := "(num 1)"
	for range api.MaxDeep {
		deep = "(add (num 1) " + deep + ")"
	}
	var vars, sizes string
	for i := range api.MaxVars {
		vars += "let " + string(rune('a'+i)) + " 1\n"
		sizes += "let " + string(rune('a'+i)) + " 7\n"
	}
	return map[string]string{
		"let a 0":                                "no 1 -1",
		"let a 49":                               "no 1 -1",
		"let a -1\n(commit)":                     "no 1 -1",
		sizes:                                    "no 1 -1",
		vars + "let i 1":                         "no 3 -1",
		strings.Repeat("(commit)\n", 151):        "no 3 -1",
		strings.Repeat(" ", 6001):                "no 3 6000",
		strings.Repeat("(commit)\n", 700):        "no 3 6000",
		"(print " + deep + ")":                   fmt.Sprint("no 4 ", strings.Index("(print "+deep, "(num 1) (num 1)")),
		"(commit) commit":                        "no 5 9",
		"(commit)\n(commit))":                    "no 5 17",
		"let abcdefghi 1":                        "no 5 4",
		"(print (num x))":                        "no 5 12",
		"let a 1\n(set (num 1))":                 "no 5 13",
		"let":                                    "no 6 3",
		"let a":                                  "no 6 5",
		"(":                                      "no 6 1",
		"(commit)\n(print (num 1)":               "no 6 23",
		"(while (num 1) (":                       "no 6 16",
		"#":                                      "no 7 0",
		"(commit)\n(Commit)":                     "no 7 10",
		"(print (num 01))":                       "no 7 12",
		"(print (num 9223372036854775808))":      "no 7 12",
		"let a 1\nlet a 1":                       "no 9 -1",
		"let a 1\nlet b 1\nlet a 0":              "no 9 -1",
		"(read a)":                               "no 10 6",
		"let a 1\n(print (add (var a)\n(get b (": "no 10 33",
		"let a 1 (set a (var b)) \x00":           "no 7 24",
		"let a 1 let a 1 (read":                  "no 6 21",
		"(while (num 1) ((if (num 2) ((commit)))))": "no 5 38",
	}
}

// TestFaults: of each kind, by boot and by ideal; nothing else is told, and nothing is done.
func TestFaults(t *testing.T) {
	met := map[int]int{}
	for text, want := range faults() {
		_, f := parse.Parse(text)
		met[f.Code]++
		if fmt.Sprint("no ", f.Code, " ", f.At) != want {
			t.Fatalf("a test is written wrong: %v of %q, want %s", f, text, want)
		}
		l := texts(strings.Split(text, "\n")...)
		lay := func(d *desk.Desk) {
			wantLine(t, d, "new")
			for part := range slices.Chunk(l, api.MaxLines) {
				wantDo(t, d, part, "")
			}
		}
		d := desk.New()
		lay(d)
		for _, s := range lines("boot", "ideal 5", "ideal 0", "ideal 3000", "ideal 3001", "ideal -1") {
			wantLine(t, d, s, want)
		}
		wantDo(t, d, lines("boot", "ideal 5", "now", "run 1"), told(want, want, "what", "what"))
		// Where there is a life, it is the one that was.
		d = booted(t, twoCommits, "7 8")
		wantLine(t, d, "run 5", "did 5")
		lay(d)
		wantDo(t, d, lines("boot", "now", "ideal 9", "now", "boot"), told(want, "code 13", "out 7", "cells 7 8", want, "code 13", "out 7", "cells 7 8", want))
		wantDo(t, d, lines("crash 0", "boot", "now", "run 99", "now"), told("did 0", want, "code 13", "out 7", "cells 7 0", "did 5", "code 0", "out 7 8", "cells 7 8"))
		// And the text and the input are: with new a text that is a program.
		wantDo(t, d, append(append(lines("new"), texts(strings.Split(twoCommits, "\n")...)...), "ideal 99"), told("took 9", "code 0", "out 7 8", "cells 7 8"))
	}
	for _, c := range []int{api.ErrRange, api.ErrMany, api.ErrDeep, api.ErrForm, api.ErrShort, api.ErrText, api.ErrTwice, api.ErrNone} {
		if met[c] == 0 {
			t.Errorf("no text has the code %d", c)
		}
	}
}

// TestCodesOfSteps: behind them the life is as it was.
func TestCodesOfSteps(t *testing.T) {
	d := booted(t, twoCommits, "7 8")
	now := lines("code 13", "out", "cells 0 0")
	for n := range 10 {
		for _, s := range lines("run -1", "run 3001", "run 9223372036854775807", "tear -1 0 0", "tear 3001 1 1", "tear 9 -1 1", "tear 0 -1 0", "tear -9223372036854775808 -9223372036854775808 -1") {
			wantDo(t, d, lines(s, "now"), told(append(lines("no 1"), now...)...))
		}
		s, _ := d.Do(lines("run 1", "now"))
		now = strings.Split(strings.TrimSuffix(s, "\n"), "\n")[1:]
		if want := fmt.Sprint("did ", min(1, 9-n)); !strings.HasPrefix(s, want+"\n") {
			t.Errorf("behind %d instructions: %q, want %s", n, s, want)
		}
	}
	wantLine(t, d, "now", "code 0", "out 7 8", "cells 7 8")
	// No commit is torn by a step with a code.
	d = booted(t, twoCommits, "7 8")
	wantDo(t, d, lines("run 3", "tear 3001 9 0", "tear 1 -1 0", "run 1", "crash 0", "now"), told("did 3", "no 1", "no 1", "did 1", "did 0", "code 13", "out 7", "cells 7 0"))
}

// TestCodesOfRuns: that a program stopped, or goes on, is no code of a line, but of the result.
func TestCodesOfRuns(t *testing.T) {
	for text, want := range map[string][]string{
		"let a 2 (print (num 3)) (set a (get a (num 2))) (print (num 4))":    {"took 4", "code 11", "out 3", "cells 0 0"},
		"let a 2 (put a (num -1) (num 3))":                                   {"took 3", "code 11", "out", "cells 0 0"},
		"let a 1 (read a) (print (var a)) (read a) (print (num 4))":          {"took 4", "code 12", "out 7", "cells 7"},
		"let a 1 (while (num 1) ((set a (add (num 1) (var a)))))":            {"took 99", "code 13", "out", "cells 14"},
		"let a 1 (print (num 15)) (while (same (var a) (num 0)) ((commit)))": {"took 99", "code 13", "out 15", "cells 0"},
	} {
		d := booted(t, text, "7")
		wantLine(t, d, "ideal 99", want...)
		wantDo(t, d, lines("run 99", "now"), told(append(lines(strings.Replace(want[0], "took", "did", 1)), want[1:]...)...))
	}
}

// TestWhatGoesOn: a line that is none stops none behind it.
func TestWhatGoesOn(t *testing.T) {
	d := desk.New()
	wantDo(t, d, lines("x", "|(print (num 5))", "run 1", "boot 1", "boot", "run 01", "run -1", "run 2", "1", "now", "ideal", "new 1", "ideal 9"),
		told("what", "what", "what", "ok", "what", "no 1", "did 2", "what", "code 13", "out 5", "cells", "what", "what", "took 3", "code 0", "out 5", "cells"))
}
