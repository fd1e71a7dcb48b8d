package desk_test

import (
	"fmt"
	"slices"
	"strings"
	"testing"

	"overwinter/api"
	"overwinter/desk"
)

// TestNoLines: nothing is told, and nothing is done.
func TestNoLines(t *testing.T) {
	for _, d := range []*desk.Desk{desk.New(), booted(t, twoCommits, "7 8")} {
		before, _ := d.Do(lines("now", "ideal 99"))
		wantDo(t, d, nil, "")
		wantDo(t, d, lines(), "")
		wantDo(t, d, lines("now", "ideal 99"), before)
	}
}

// TestWithoutWords: lines that are empty, or blanks alone, tell nothing; they are no lines of the text.
func TestWithoutWords(t *testing.T) {
	d := desk.New()
	for _, s := range lines("", " ", "  ", strings.Repeat(" ", 5000)) {
		wantLine(t, d, s)
		wantDo(t, d, lines(s, "now", s, s, "run 1", s), told("what", "what"))
		wantDo(t, d, lines("new", "|(com", s, "|mit", s, "ideal 9"), told("no 5 1"))
		wantDo(t, d, lines("new", s, "|(commit", s, "ideal 9"), told("no 6 7"))
		wantDo(t, d, lines("new", "|(commit)", "boot", s, "run 1", s, "now", s), told("ok", "did 1", "code 13", "out", "cells"))
		d = desk.New()
	}
	wantDo(t, d, make([]string, api.MaxLines), "")
}

// TestBarAlone: it is an empty line of the text, so that there is a newline more.
func TestBarAlone(t *testing.T) {
	d := desk.New()
	wantLine(t, d, "|")
	wantLine(t, d, "ideal 1", "took 1", "code 0", "out", "cells")
	wantDo(t, d, lines("|(", "|", "boot"), told("no 6 3"))
	wantDo(t, d, lines("|", "|", "|commit", "|", "|)", "|", "ideal 1"), told("took 1", "code 13", "out", "cells"))
	wantDo(t, d, lines("|", "|)", "ideal 1"), told("no 5 18"))
	wantDo(t, d, lines("new", "|", "|", "|", "|)", "ideal 1"), told("no 5 3"))
}

// TestBehindTheBar: all of it is a line of the text, as it stands there.
func TestBehindTheBar(t *testing.T) {
	for s, want := range map[string]string{
		"||":                "no 7 0",
		"| |":               "no 7 1",
		"|   (":             "no 6 4",
		"|(  ":              "no 6 3",
		"|now":              "no 5 0",
		"|new":              "no 5 0",
		"|\t(\r":            "no 6 3",
		"|\x00":             "no 7 0",
		"|(commit)\xff":     "no 7 8",
		"|(commit) \u20ac)": "no 7 9",
		"|)":                "no 5 0",
	} {
		d := desk.New()
		wantLine(t, d, s)
		wantDo(t, d, lines("boot", "ideal 3"), told(want, want))
	}
	wantDo(t, desk.New(), lines("| let  a\t1 ", "|   (set a (num 4))\r", "ideal 9"), told("took 3", "code 0", "out", "cells 4"))
}

// TestBarNotFirst: with anything ahead of it, it begins no line of the text.
func TestBarNotFirst(t *testing.T) {
	for _, s := range lines(" |", "  |", " |(commit)", "   | (commit)", "\t|", "x|", "new|", "new |", "input |", "input 1 |2", "boot |", "ideal 1|", " | now") {
		d := laid(t, "let a 1 (read a", "5")
		wantDo(t, d, lines(s, "ideal 9", "boot"), told("what", "no 6 15", "no 6 15"))
		wantDo(t, d, lines("|)", s, "ideal 9"), told("what", "took 2", "code 0", "out", "cells 5"))
	}
}

// TestNoLinesOfText: a program of no text at all, and of empty lines.
func TestNoLinesOfText(t *testing.T) {
	for n := range 4 {
		for _, l := range [][]string{nil, lines("|(", "new")} {
			d := desk.New()
			wantDo(t, d, slices.Concat(l, slices.Repeat(lines("|"), n)), "")
			wantDo(t, d, lines("ideal 0", "ideal 1", "ideal 2"), told("took 0", "code 13", "out", "cells", "took 1", "code 0", "out", "cells", "took 1", "code 0", "out", "cells"))
			wantDo(t, d, lines("boot", "now", "run 9", "now", "crash 0", "now", "run 9"), told("ok", "code 13", "out", "cells", "did 1", "code 0", "out", "cells", "did 0", "code 13", "out", "cells", "did 1"))
		}
	}
}

// TestBlanks: as many as there are ahead of a word, behind it, and between two; they are nothing else than one.
func TestBlanks(t *testing.T) {
	script := lines("new", "|let a 1 (read a) (commit)", "input 7 -8", "boot", "ideal 5", "run 1", "now", "crash -1", "tear 9 1 1", "now", "run -1", "boot 1", "x y")
	want, f := desk.New().Do(script)
	if f.Code != 0 || want != told("ok", "took 3", "code 0", "out", "cells 7", "did 1", "code 13", "out", "cells 7", "did 0", "did 2", "code 13", "out", "cells 7", "no 1", "what", "what") {
		t.Fatalf("%q, fault %v", want, f)
	}
	for _, blanks := range [][3]string{{" ", "", " "}, {"", " ", " "}, {"   ", "  ", "  "}, {"", "", "     "}, {strings.Repeat(" ", 300), strings.Repeat(" ", 200), strings.Repeat(" ", 100)}} {
		var l []string
		for _, s := range script {
			if s[0] != '|' {
				s = blanks[0] + strings.ReplaceAll(s, " ", blanks[2]) + blanks[1]
			}
			l = append(l, s)
		}
		wantDo(t, desk.New(), l, want)
	}
}

// TestOtherBlanks: only the byte 32 is one; others are of the word that they stand in, or are one.
func TestOtherBlanks(t *testing.T) {
	for _, blank := range lines("\t", "\r", "\v", "\f", "\x00", "\u00a0", "\u2003", "\u0085", "\xa0", "\x85", ",", "\x1f", "!") {
		d := booted(t, twoCommits, "7 8")
		for _, s := range lines("", "now", "run 1", "crash 0", "tear 9 1 1", "boot", "new", "input 1", "ideal 3") {
			wantLine(t, d, blank+s, "what")
			wantLine(t, d, s+blank, "what")
			wantLine(t, d, s+" "+blank, "what")
			wantLine(t, d, blank+" "+s, "what")
			if strings.Contains(s, " ") {
				wantLine(t, d, strings.ReplaceAll(s, " ", blank), "what")
				wantLine(t, d, strings.ReplaceAll(s, " ", " "+blank), "what")
			}
		}
		wantDo(t, d, lines("now", "ideal 99"), told("code 13", "out", "cells 0 0", "took 9", "code 0", "out 7 8", "cells 7 8"))
	}
}

// TestNumbersAtBothEnds: of 64 bits, and one beyond.
func TestNumbersAtBothEnds(t *testing.T) {
	d := laid(t, "let a 1 let b 1 (read a) (read b) (print (var b)) (print (var a))", "")
	wantDo(t, d, lines("input 9223372036854775807 -9223372036854775808", "ideal 99"), told("took 7", "code 0", "out -9223372036854775808 9223372036854775807", "cells 9223372036854775807 -9223372036854775808"))
	wantDo(t, d, lines("boot", "run 99", "now"), told("ok", "did 7", "code 0", "out -9223372036854775808 9223372036854775807", "cells 9223372036854775807 -9223372036854775808"))
	for _, s := range lines("9223372036854775806", "9223372036854775807", "-9223372036854775807", "-9223372036854775808", "0", "-1", "10", "-10", "4294967296", "2147483648") {
		wantDo(t, d, lines("input "+s+" 1", "ideal 1"), told("took 1", "code 13", "out", "cells "+s+" 0"))
		wantLine(t, d, "crash "+s, "did 0")
		wantLine(t, d, "tear 0 0 "+s, "did 0")
	}
	for _, s := range lines("9223372036854775808", "-9223372036854775809", "18446744073709551615", "18446744073709551616", "-18446744073709551615", "99999999999999999999", "1"+strings.Repeat("0", 500)) {
		wantNumberless(t, s)
	}
}

// wantNumberless: a word is no number, wherever one should stand, and nothing is done.
func wantNumberless(t *testing.T, s string) {
	t.Helper()
	d := booted(t, twoCommits, "7 8")
	for _, line := range lines("input "+s, "input 1 "+s, "input "+s+" 1", "input 1 2 "+s+" 3", "ideal "+s, "run "+s, "crash "+s, "tear "+s+" 1 1", "tear 9 "+s+" 1", "tear 9 1 "+s, "tear "+s+" "+s+" "+s) {
		wantLine(t, d, line, "what")
	}
	wantDo(t, d, lines("now", "ideal 99", "run 99", "now"), told("code 13", "out", "cells 0 0", "took 9", "code 0", "out 7 8", "cells 7 8", "did 9", "code 0", "out 7 8", "cells 7 8"))
}

// TestNotAsShortAsCanBe: a sign +, noughts ahead, -0; and what is a number elsewhere.
func TestNotAsShortAsCanBe(t *testing.T) {
	for _, s := range lines("+1", "+0", "01", "00", "000", "-01", "-00", "-0", "+01", "--1", "-+1", "+-1", "1-", "-", "+",
		"0x1", "0b1", "0o7", "1_0", "1e2", "1.0", "1.", ".5", "1,0", "1a", "a1", "\u0661", "\uff11", "1\x00", "'1'", "\"1\"", "one", "num", "1|", "(1)",
		"0009223372036854775807", "-09223372036854775808", "+9223372036854775807") {
		wantNumberless(t, s)
	}
}

// TestMasks: numbers with a sign, of whose bits the first one says whether the root stays.
func TestMasks(t *testing.T) {
	for mask, stays := range map[int64]bool{0: false, 1: true, 2: false, 3: true, -1: true, -2: false, -3: true, least: false, least + 1: true, most: true, most - 1: false, 1 << 32: false, 1<<32 + 1: true, -1 << 32: false} {
		d := booted(t, "let a 1 (set a (num 5)) (commit)", "")
		now := "cells 0"
		if stays {
			now = "cells 5"
		}
		wantDo(t, d, lines(fmt.Sprint("tear 9 1 ", mask), "now"), told("did 3", "code 13", "out", now))
		// A crash between two instructions: nothing waits, whatever the mask is.
		d = booted(t, "let a 1 (set a (num 5)) (commit) (set a (num 6))", "")
		wantDo(t, d, lines("run 5", "now", fmt.Sprint("crash ", mask), "now"), told("did 5", "code 13", "out", "cells 6", "did 0", "code 13", "out", "cells 5"))
	}
}

// TestLimitsOfNumbers: N and F at 0 and at MaxFuel, K at 0 and as great as can be; one more, and -1, is a code.
func TestLimitsOfNumbers(t *testing.T) {
	const endless = "let a 1 (while (num 1) ((set a (add (var a) (num 1)))))"
	now := func(d *desk.Desk) string { s, _ := d.Do(lines("now")); return s }
	for _, c := range []struct{ line, want string }{
		{"run 0", "did 0"}, {"run 1", "did 1"}, {"run 2999", "did 2999"}, {"run 3000", "did 3000"},
		{"tear 0 0 0", "did 0"}, {"tear 3000 0 0", "did 3000"}, {"tear 3000 9223372036854775807 0", "did 3000"}, {"tear 1 1 1", "did 1"},
		{"run 3001", "no 1"}, {"run -1", "no 1"}, {"run 9223372036854775807", "no 1"}, {"run -9223372036854775808", "no 1"}, {"run 4294967296", "no 1"},
		{"tear 3001 0 0", "no 1"}, {"tear -1 0 0", "no 1"}, {"tear 0 -1 0", "no 1"}, {"tear 3000 -1 -1", "no 1"}, {"tear 5 -9223372036854775808 0", "no 1"}, {"tear -9223372036854775808 0 0", "no 1"}, {"tear 4294967297 1 1", "no 1"}, {"tear -1 -1 -1", "no 1"},
	} {
		d := booted(t, endless, "")
		before := now(d)
		wantLine(t, d, c.line, c.want)
		if did := c.want != "no 1" && c.want != "did 0"; (now(d) != before) != (did && c.want != "did 1") {
			t.Errorf("%s: now %q, was %q", c.line, now(d), before)
		}
	}
	d := laid(t, endless, "")
	for _, c := range []struct {
		line string
		want []string
	}{
		{"ideal 0", lines("took 0", "code 13", "out", "cells 0")},
		{"ideal 3000", lines("took 3000", "code 13", "out", "cells 428")},
		{"ideal 2999", lines("took 2999", "code 13", "out", "cells 428")},
		{"ideal 3001", lines("no 1")},
		{"ideal -1", lines("no 1")},
		{"ideal 9223372036854775807", lines("no 1")},
		{"ideal -9223372036854775808", lines("no 1")},
		{"ideal 4294967296", lines("no 1")},
	} {
		wantLine(t, d, c.line, c.want...)
	}
}

// TestDeedsOfATear: K is how many are left out, from 0 to more than there are.
func TestDeedsOfATear(t *testing.T) {
	for k, want := range map[string]string{"0": "cells 5", "1": "cells 5", "2": "cells 0", "3": "cells 0", "6": "cells 0", "7": "cells 0", "8": "cells 0", "99": "cells 0", "4294967296": "cells 0", "9223372036854775807": "cells 0"} {
		d := booted(t, "let a 1 (set a (num 5)) (commit)", "")
		wantDo(t, d, lines("tear 3 "+k+" 1", "now"), told("did 3", "code 13", "out", want))
		d = booted(t, "let a 1 (set a (num 5)) (commit)", "")
		wantDo(t, d, lines("tear 2 "+k+" 1", "now"), told("did 2", "code 13", "out", "cells 5"))
	}
}

// TestManyLines: MaxLines are done; of one more none is.
func TestManyLines(t *testing.T) {
	for _, n := range []int{api.MaxLines - 1, api.MaxLines} {
		d := desk.New()
		l := slices.Repeat(lines("|let a 1 (print (num 1))", "new", "now"), n/3)
		l = append(l, slices.Repeat(lines("what"), n-len(l))...)
		wantDo(t, d, l, strings.Repeat("what\n", n-2*(n/3)))
		wantDo(t, d, slices.Repeat(lines("|(commit)"), n), "")
		wantDo(t, d, lines("ideal 999"), told(fmt.Sprint("took ", n+1), "code 0", "out", "cells"))
	}
	for _, n := range []int{1, 2, api.MaxLines, 5000} {
		d := booted(t, twoCommits, "7 8")
		for _, s := range lines("", "|", "|x", "run 1", "crash 0", "new", "boot", "input", "what") {
			wantFault(t, d, slices.Repeat(lines(s), api.MaxLines+n), api.ErrMany, -1)
		}
		wantUntouched(t, d)
	}
}

// wantUntouched: of a desk with twoCommits, 7 and 8, and its life at the beginning.
func wantUntouched(t *testing.T, d *desk.Desk) {
	t.Helper()
	wantDo(t, d, lines("now", "ideal 99"), told("code 13", "out", "cells 0 0", "took 9", "code 0", "out 7 8", "cells 7 8"))
}

// TestTextOfManyDo: it may have more than MaxLines lines; that it may not have more than MaxText bytes parse tells.
func TestTextOfManyDo(t *testing.T) {
	d := desk.New()
	for range 10 {
		wantDo(t, d, slices.Repeat(lines("|"), api.MaxLines), "")
	}
	wantDo(t, d, lines("|(", "boot"), told("no 6 1501"))
	for _, c := range []struct {
		sizes []int
		want  string
	}{
		{[]int{6000}, "took 1\ncode 0\nout\ncells\n"},
		{[]int{6001}, "no 3 6000\n"},
		{[]int{3000, 2999}, "took 1\ncode 0\nout\ncells\n"},
		{[]int{3000, 3000}, "no 3 6000\n"},
		{[]int{2000, 2000, 1998}, "took 1\ncode 0\nout\ncells\n"},
		{[]int{2000, 2000, 1999}, "no 3 6000\n"},
		{[]int{5999, 0}, "took 1\ncode 0\nout\ncells\n"},
		{[]int{6000, 0}, "no 3 6000\n"},
		{[]int{100000, 100000}, "no 3 6000\n"},
	} {
		d := desk.New()
		for _, n := range c.sizes {
			wantLine(t, d, "|"+strings.Repeat(" ", n))
		}
		wantDo(t, d, lines("ideal 9"), c.want)
		wantDo(t, d, lines("new", "|(commit)", "ideal 9"), told("took 2", "code 0", "out", "cells"))
	}
}

// TestNewlines: the first line with one is told, and nothing is done of those ahead of it.
func TestNewlines(t *testing.T) {
	for _, bad := range lines("\n", "a\nb", "now\n", "\nnow", "|\n", "|(commit)\n", "|(commit)\n(commit)", " \n ", "run 1\n", "\n\n", "\r\n", "input 1\n2", "\x00\n") {
		for n := range 6 {
			d := booted(t, twoCommits, "7 8")
			ahead := lines("run 4", "|(commit", "input 1", "crash 0", "new")[:n]
			for _, behind := range [][]string{nil, lines("now"), lines(bad), lines("run 1", bad, "new")} {
				wantFault(t, d, slices.Concat(ahead, lines(bad), behind), api.ErrLine, n)
			}
			wantUntouched(t, d)
		}
		full := slices.Repeat(lines("new"), api.MaxLines)
		full[api.MaxLines-1] = bad
		d := booted(t, twoCommits, "7 8")
		wantFault(t, d, full, api.ErrLine, api.MaxLines-1)
		full[0] = bad
		wantFault(t, d, full, api.ErrLine, 0)
		// Both at once: that there are too many is told.
		for _, at := range []int{0, 77, api.MaxLines - 1, api.MaxLines} {
			many := slices.Repeat(lines("new"), api.MaxLines+1)
			many[at] = bad
			wantFault(t, d, many, api.ErrMany, -1)
		}
		wantUntouched(t, d)
	}
	// A carriage return alone is no newline, but a blank of the text.
	wantDo(t, desk.New(), lines("|(commit)\r", "|\r(commit)", "ideal 9", "\r"), told("took 3", "code 0", "out", "cells", "what"))
}

// inputOf: a line with so many numbers; and those that a program prints of them.
func inputOf(n int) (line, all string) {
	line = "input"
	for i := range n {
		all += fmt.Sprint(" ", i*i-5)
	}
	return line + all, all
}

// TestLongInputs: of MaxInput numbers, and of one more, which both a life and ideal refuse.
func TestLongInputs(t *testing.T) {
	const reads = "|let a 1 (while (num 1) ((read a) (print (var a))))"
	for _, n := range []int{0, 1, api.MaxInput - 1, api.MaxInput} {
		line, all := inputOf(n)
		cells := "cells 0"
		if n > 0 {
			cells = fmt.Sprint("cells ", (n-1)*(n-1)-5)
		}
		d := desk.New()
		wantDo(t, d, lines(reads, line, "ideal 999"), told(fmt.Sprint("took ", 6*n+3), "code 12", "out"+all, cells))
		wantDo(t, d, lines("boot", "run 999", "now"), told("ok", fmt.Sprint("did ", 6*n+3), "code 12", "out"+all, cells))
	}
	for _, n := range []int{api.MaxInput + 1, api.MaxInput + 2, 2 * api.MaxInput, 3000} {
		line, _ := inputOf(n)
		d := booted(t, twoCommits, "7 8")
		wantDo(t, d, lines("run 3", line, "boot", "now", "ideal 99", "ideal -1"), told("did 3", "no 1", "code 13", "out 7", "cells 7 0", "no 1", "no 1"))
		// A fault of the program is told ahead of that.
		wantDo(t, d, lines("|)", "boot", "ideal 99", "ideal -1"), strings.Repeat(fmt.Sprintln("no 5", len(twoCommits)+1), 3))
		wantDo(t, d, lines("run 99", "now", "new", "input 3", "boot", "ideal 99"), told("did 6", "code 0", "out 7 8", "cells 7 8", "ok", "took 1", "code 0", "out", "cells"))
	}
}

// TestInputWithoutNumbers: then there is none.
func TestInputWithoutNumbers(t *testing.T) {
	d := laid(t, twoCommits, "7 8")
	wantDo(t, d, lines("ideal 99", "input", "ideal 99", "boot", "run 99", "now"), told("took 9", "code 0", "out 7 8", "cells 7 8", "took 1", "code 12", "out", "cells 0 0", "ok", "did 1", "code 12", "out", "cells 0 0"))
	wantDo(t, d, lines("input 1", "  input  ", "ideal 99"), told("took 1", "code 12", "out", "cells 0 0"))
}

// TestBareResults: nothing printed, no cells: the word alone, without a blank.
func TestBareResults(t *testing.T) {
	for text, want := range map[string][]string{
		"":                                   {"code 0", "out", "cells"},
		"(commit)":                           {"code 0", "out", "cells"},
		"(print (num 0))":                    {"code 0", "out 0", "cells"},
		"let a 1":                            {"code 0", "out", "cells 0"},
		"let a 3":                            {"code 0", "out", "cells 0 0 0"},
		"let a 1 (read a)":                   {"code 12", "out", "cells 0"},
		"let a 2 (set a (get a (num 2)))":    {"code 11", "out", "cells 0 0"},
		"(print (num -1)) (print (num 1))":   {"code 0", "out -1 1", "cells"},
		"let a 48 (put a (num 47) (num -6))": {"code 0", "out", "cells" + strings.Repeat(" 0", 47) + " -6"},
		"(while (num 1) ())":                 {"code 13", "out", "cells"},
		"let b 2 let a 1 (put b (num 1) (num 9223372036854775807))": {"code 0", "out", "cells 0 9223372036854775807 0"},
	} {
		d := booted(t, text, "")
		if _, f := d.Do(lines("run 999")); f.Code != 0 {
			t.Errorf("fault %v", f)
		}
		wantLine(t, d, "now", want...)
		s, _ := d.Do(lines("ideal 999"))
		if _, result, _ := strings.Cut(s, "\n"); result != told(want...) {
			t.Errorf("%s: ideal tells %q, want %q", text, result, told(want...))
		}
	}
}

// TestMuchPrinted: as many as there are, in one line.
func TestMuchPrinted(t *testing.T) {
	d := booted(t, "let a 1 (while (num 1) ((print (var a)) (set a (sub (var a) (num 1)))))", "")
	want := "out"
	for i := range 333 {
		want += fmt.Sprint(" ", -i)
	}
	wantDo(t, d, lines("run 3000", "now"), told("did 3000", "code 13", want, "cells -333"))
	wantDo(t, d, lines("run 1", "now"), told("did 1", "code 13", want+" -333", "cells -333"))
	wantLine(t, d, "ideal 2997", "took 2997", "code 13", want, "cells -333")
}
