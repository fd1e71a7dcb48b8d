package render

import (
	"math"
	"strings"
	"testing"

	"overwinter/api"
	"overwinter/code"
	"overwinter/parse"
)

// TestBound: no program has a text that is so long (see TestLongest), so the bound is asked by itself.
func TestBound(t *testing.T) {
	none := api.Fault{}
	many := api.Fault{Code: api.ErrMany, At: -1}
	for n, want := range map[int]api.Fault{
		0: none, 1: none, api.MaxText - 1: none, api.MaxText: none,
		api.MaxText + 1: many, api.MaxText + 2: many, 2 * api.MaxText: many, 1 << 16: many, 1 << 20: many,
	} {
		s := strings.Repeat("a", n)
		text := s
		if want.Code != 0 {
			text = ""
		}
		if got, f := bounded(s); got != text || f != want {
			t.Errorf("%d bytes: %d bytes and %v, want %d and %v", n, len(got), f, len(text), want)
		}
	}
	if _, f := bounded(strings.Repeat("é", api.MaxText/2)); f != none {
		t.Errorf("letters of two bytes: %v", f)
	}
	if _, f := bounded(strings.Repeat("é", api.MaxText/2+1)); f != many {
		t.Errorf("letters of two bytes, one more: %v", f)
	}
}

// TestBoundIsWhatParseTakes: a text of MaxText bytes is parsed, one of a byte more is not.
func TestBoundIsWhatParseTakes(t *testing.T) {
	for n := api.MaxText - 2; n <= api.MaxText+2; n++ {
		s := strings.Repeat(" ", n)
		_, f := bounded(s)
		_, g := parse.Parse(s)
		if (f.Code == 0) != (g.Code == 0) {
			t.Errorf("%d bytes: %v, and parse.Parse %v", n, f, g)
		}
	}
}

// longest: how many bytes a text of so many parts can have, however deep they stand; by their number.
type longest struct {
	expr, stmt, list, line []int
}

const (
	aName   = len("zzzzzzzz")
	aNumber = len("-9223372036854775808")
)

func longestOf(parts int) longest {
	l := longest{expr: make([]int, parts+1), stmt: make([]int, parts+1), list: make([]int, parts+1), line: make([]int, parts+1)}
	l.list[0] = len("()")
	for n := 1; n <= parts; n++ {
		l.expr[n] = l.exprOf(n)
		l.stmt[n] = l.stmtOf(n)
		for i := 1; i <= n; i++ {
			l.line[n] = max(l.line[n], l.stmt[i]+len("\n")+l.line[n-i])
		}
		l.list[n] = l.line[n] - len("\n") + len("()") // a blank between, as a line's end is behind each
	}
	return l
}

func (l longest) exprOf(n int) int {
	if n == 1 {
		return max(len("(num )")+aNumber, len("(var )")+aName)
	}
	most := len("(get  )") + aName + l.expr[n-1]
	for i := 1; i < n-1; i++ {
		most = max(most, len("(less  )")+l.expr[i]+l.expr[n-1-i])
	}
	return most
}

func (l longest) stmtOf(n int) int {
	if n == 1 {
		return max(len("(read )")+aName, len("(commit)"))
	}
	most := max(len("(set  )")+aName+l.expr[n-1], len("(print )")+l.expr[n-1])
	for i := 1; i < n; i++ {
		if i < n-1 {
			most = max(most, len("(put   )")+aName+l.expr[i]+l.expr[n-1-i])
		}
		most = max(most, len("(while  )")+l.expr[i]+l.list[n-1-i])
		for j := range n - i {
			most = max(most, len("(if   )")+l.expr[i]+l.list[j]+l.list[n-1-i-j])
		}
	}
	return most
}

// TestLongest: the longest text that a program can have, which is not too long.
func TestLongest(t *testing.T) {
	most := 0
	for _, n := range longestOf(api.MaxParts).line {
		most = max(most, n)
	}
	var p api.Program
	for i := range api.MaxVars {
		size := 10
		if i >= 4 {
			size = 2 // no five variables have sizes of two digits
		}
		p.Vars = append(p.Vars, api.Var{Name: strings.Repeat(string(rune('a'+i)), api.MaxName), Size: size})
		most += len("let zzzzzzzz 2\n") + size/10
	}
	e := api.Expr{Op: api.ENum, N: math.MinInt64}
	for range api.MaxParts / 3 {
		p.Body = append(p.Body, api.Stmt{Op: api.SPut, V: 7, E: e, F: e})
	}
	s, f := Print(p)
	if f != (api.Fault{}) || len(s) != most || most > api.MaxText {
		t.Errorf("%d bytes and %v, want %d bytes, at most %d, and no fault", len(s), f, most, api.MaxText)
	}
	if q, f := parse.Parse(s); f != (api.Fault{}) || !code.Same(p, q) {
		t.Errorf("the longest text is not parsed to its program: %v", f)
	}
}

// TestWords: as many as there are, in one call or in several.
func TestWords(t *testing.T) {
	for want, l := range map[string][][]string{
		"":             {{}, {}},
		"a":            {{"a"}, {}},
		"a b c":        {{"a", "b", "c"}},
		"(a b)":        {{"(", "a"}, {"b", ")"}},
		"(a b) (c)":    {{"("}, {"a"}, {"b"}, {")"}, {"(", "c", ")"}},
		"(() ()) a ()": {{"(", "(", ")"}, {"(", ")", ")", "a"}, {"(", ")"}},
	} {
		var x text
		for _, some := range l {
			x.words(some...)
		}
		x.endLine()
		x.words("a", "b")
		if got := x.all.String(); got != want+"\na b" {
			t.Errorf("%v: %q, want %q", l, got, want+"\na b")
		}
	}
}
