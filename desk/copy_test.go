package desk_test

import (
	"slices"
	"strings"
	"testing"
	"unsafe"

	"overwinter/api"
	"overwinter/desk"
)

// scripts: of all kinds of lines, and of what is none.
func scripts() [][]string {
	return [][]string{
		nil,
		lines("now"),
		slices.Concat(texts(strings.Split(twoCommits, "\n")...), lines("input 7 8", "boot", "run 3", "now", "crash 0", "tear 9 1 1", "now", "ideal 99")),
		lines("|(print (num 5))", "boot", "ideal 9", "run 2", "now", "new", "|x", "boot", "ideal 9", "", "  ", "x", "run 01", "run -1"),
		lines("input 1 2 3", "input 1 x", "|let a 1 (read a) (print (var a)) (read a)", "ideal 9", "input", "ideal 9"),
		lines("boot", "a\nb", "now"),
		slices.Repeat(lines("|"), api.MaxLines+1),
	}
}

// TestLeavesLines: neither they are changed nor what lies behind them in the list's memory, which is as if it were not there.
func TestLeavesLines(t *testing.T) {
	for i, l := range scripts() {
		want, fault := desk.New().Do(l)
		for _, behind := range [][]string{lines("now", "boot"), lines("a\nb"), lines("|(commit)", "new"), make([]string, 200)} {
			long := slices.Concat(l, behind)
			before := slices.Clone(long)
			d := desk.New()
			got, f := d.Do(long[:len(l)])
			if got != want || f != fault {
				t.Errorf("script %d: %q, fault %v, want %q, fault %v", i, got, f, want, fault)
			}
			d.Do(lines("new", "|x", "input 5", "boot", "now"))
			if !slices.Equal(long, before) {
				t.Errorf("script %d: the lines were changed", i)
			}
		}
	}
	// Only the length says how many lines there are.
	wantDo(t, desk.New(), slices.Repeat(lines("what"), 5000)[:api.MaxLines], strings.Repeat("what\n", api.MaxLines))
}

// lend: lines whose bytes a test can change.
func lend(l []string) (loan []string, spoil func()) {
	var all [][]byte
	for _, s := range l {
		b := append([]byte(s), 0)
		all = append(all, b)
		loan = append(loan, unsafe.String(&b[0], len(s)))
	}
	return loan, func() {
		for i, b := range all {
			copy(b, strings.Repeat("\n)x", len(b)))
			loan[i] = "new"
		}
	}
}

// TestKeepsNoLines: what becomes of them behind Do is nothing to the desk, nor to what was told.
func TestKeepsNoLines(t *testing.T) {
	for i, l := range scripts() {
		for n := range len(l) + 1 {
			d, e := desk.New(), desk.New()
			loan, spoil := lend(l[:n])
			got, f := d.Do(loan)
			spoil()
			if want, g := e.Do(l[:n]); got != want || f != g {
				t.Errorf("script %d, %d lines: %q, fault %v, want %q, fault %v", i, n, got, f, want, g)
			}
			asking := lines("now", "ideal 9", "|", "ideal 99", "boot", "run 9", "now", "crash 1", "run 5", "now")
			want, _ := e.Do(asking)
			wantDo(t, d, asking, want)
		}
	}
}

// TestDesksApart: two of them, by turns, know nothing of each other.
func TestDesksApart(t *testing.T) {
	a, b := desk.New(), desk.New()
	wantDo(t, a, lines("|let a 1 (read a) (print (var a)) (commit)", "input 7", "boot"), told("ok"))
	wantDo(t, b, lines("now", "ideal 9"), told("what", "took 1", "code 0", "out", "cells"))
	wantDo(t, b, lines("|let b 1 (read b) (print (var b)) (commit)", "ideal 9", "input 8", "boot"), told("took 1", "code 12", "out", "cells 0", "ok"))
	wantDo(t, a, lines("run 3", "now"), told("did 3", "code 13", "out 7", "cells 7"))
	wantDo(t, b, lines("now", "tear 9 1 1", "now"), told("code 13", "out", "cells 0", "did 4", "code 13", "out 8", "cells 8"))
	wantDo(t, a, lines("crash 0", "now", "new", "input"), told("did 0", "code 13", "out 7", "cells 0"))
	wantDo(t, b, lines("crash 0", "ideal 9", "run 9", "now"), told("did 0", "took 5", "code 0", "out 8", "cells 8", "did 1", "code 0", "out 8", "cells 8"))
	wantDo(t, a, lines("ideal 9", "run 9", "now"), told("took 1", "code 0", "out", "cells", "did 5", "code 0", "out 7", "cells 7"))
	wantFault(t, a, lines("new", "\n"), api.ErrLine, 1)
	wantDo(t, b, lines("|(", "boot"), told("no 6 43"))
	wantDo(t, a, lines("boot", "now"), told("ok", "code 13", "out", "cells"))
	wantDo(t, b, lines("now"), told("code 0", "out 8", "cells 8"))
}

// TestToldAgain: the same lines tell the same on each new desk, whatever was asked of others between.
func TestToldAgain(t *testing.T) {
	for i, l := range scripts() {
		want, fault := desk.New().Do(l)
		for j, other := range scripts() {
			desk.New().Do(other)
			if got, f := desk.New().Do(l); got != want || f != fault {
				t.Errorf("script %d behind %d: %q, fault %v, want %q, fault %v", i, j, got, f, want, fault)
			}
		}
	}
}

// TestAskingChangesNothing: now, ideal, and what is no line, tell the same as often as they are asked.
func TestAskingChangesNothing(t *testing.T) {
	for _, n := range lines("0", "3", "4", "6", "9") {
		d, asked := booted(t, twoCommits, "7 8"), booted(t, twoCommits, "7 8")
		for _, s := range lines("run "+n, "crash 0", "tear 9 1 0", "tear 9 1 1", "run 99") {
			want, _ := d.Do(lines(s))
			wantDo(t, asked, lines(s), want)
			first, _ := asked.Do(lines("now", "ideal 5", "ideal 99", "x", "now 1", "ideal -1"))
			for range 3 {
				wantDo(t, asked, lines("now", "ideal 5", "ideal 99", "x", "now 1", "ideal -1"), first)
			}
		}
	}
}

// TestNilOrEmpty: lists of lines without elements are the same either way.
func TestNilOrEmpty(t *testing.T) {
	for _, l := range [][]string{nil, {}, make([]string, 0, 200), lines("a\nb")[:0], make([]string, 151)[:0]} {
		d := booted(t, twoCommits, "7 8")
		wantDo(t, d, l, "")
		wantUntouched(t, d)
	}
}

// TestToldStays: what was told is not changed by what is told then.
func TestToldStays(t *testing.T) {
	d := booted(t, twoCommits, "7 8")
	early, _ := d.Do(lines("run 3", "now"))
	for range 20 {
		d.Do(lines("run 1", "now", "crash 0", "boot", "ideal 99"))
	}
	if early != told("did 3", "code 13", "out 7", "cells 7 0") {
		t.Errorf("an early answer: %q", early)
	}
}
