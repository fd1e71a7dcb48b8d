package parse_test

import (
	"strings"
	"testing"

	"overwinter/api"
	"overwinter/parse"
	"overwinter/token"
)

// pieces: the tokens of a text that is made of them.
func pieces(t *testing.T, s string) []string {
	t.Helper()
	l, f := token.Scan(s)
	if f.Code != 0 {
		t.Fatalf("%s: %v", short(s), f)
	}
	var out []string
	for _, x := range l {
		out = append(out, x.Text)
	}
	return out
}

// parted: are two tokens two without a blank between?
func parted(a, b string) bool {
	l, f := token.Scan(a + b)
	return f.Code == 0 && len(l) == 2 && l[0].Text == a && l[1].Text == b
}

// dense: blanks stand only where two tokens would not be two without one.
func dense(l []string) string {
	var b strings.Builder
	for i, x := range l {
		if i > 0 && !parted(l[i-1], x) {
			b.WriteString(" ")
		}
		b.WriteString(x)
	}
	return b.String()
}

// TestOtherBlanks: the same program with other blanks between its tokens, ahead of them and behind them.
func TestOtherBlanks(t *testing.T) {
	for _, s := range []string{rich, "", "let a 1", "(commit)", "let a 1 let b 2 (set a (num -5)) (read b)", "(if (num 1) ((commit)(commit)) ())"} {
		want, f := parse.Parse(s)
		if f.Code != 0 {
			t.Fatalf("%s: %v", short(s), f)
		}
		l := pieces(t, s)
		wantProgram(t, dense(l), want)
		for i, blank := range []string{" ", "\t", "\n", "\r", "  ", "\r\n", "\n\t\t", " \t\n\r \t\n\r"} {
			text := strings.Join(l, blank)
			wantProgram(t, text, want)
			wantProgram(t, blank+text, want)
			wantProgram(t, text+blank, want)
			var mixed strings.Builder
			for j, x := range l {
				mixed.WriteString(x + []string{" ", "\n", "\t ", blank}[(i+j)%4])
			}
			wantProgram(t, mixed.String(), want)
		}
	}
}

func TestSideBySide(t *testing.T) {
	all := vars(api.Var{Name: "a", Size: 2}, api.Var{Name: "b", Size: 1})
	for s, want := range map[string][]api.Stmt{
		"(commit)(commit)":                    list(commit(), commit()),
		"(print(num-5))":                      list(tell(num(-5))),
		"(print(num5))":                       list(tell(num(5))),
		"(set a(var b))":                      list(set(0, first(1))),
		"(put a(num0)(get b(num-1)))":         list(put(0, num(0), get(1, num(-1)))),
		"(while(var a)((read a)(commit)))":    list(while(first(0), read(0), commit())),
		"(if(same(var a)(num1))()((commit)))": list(either(two(api.ESame, first(0), num(1)), nil, list(commit()))),
		"( commit )( print( num 1 ) )":        list(commit(), tell(num(1))),
	} {
		wantProgram(t, "let a2let b1"+s, api.Program{Vars: all, Body: want})
		wantProgram(t, "let a 2 let b 1"+s, api.Program{Vars: all, Body: want})
	}
	wantFault(t, "leta 1", api.ErrForm, 0)
	wantFault(t, "let a 1(reada)", api.ErrForm, 8)
	wantFault(t, "let a 1letb 1", api.ErrForm, 7)
	wantFault(t, "(com mit)", api.ErrForm, 1)
	wantFault(t, "(print (num 1 2))", api.ErrForm, 14)
	wantFault(t, "(print (num 1-2))", api.ErrForm, 13)
}

// TestStatementsBehind: a program's text with statements behind it is the program with these behind its own, or has that program's fault.
func TestStatementsBehind(t *testing.T) {
	texts := []string{"", "let a 1", "let a 1 (read a)", rich, "let a 2 let b 46 " + strings.Repeat("(read b)", 100), strings.Repeat("(commit)", 149), strings.Repeat("(commit)\n", 150)}
	behind := map[string][]api.Stmt{
		"":                                   nil,
		"(commit)":                           list(commit()),
		"(commit) (print (num 3))":           list(commit(), tell(num(3))),
		"(if (num 1) ((commit)) ((commit)))": list(either(num(1), list(commit()), list(commit()))),
		"(while (add (num 1) (num 2)) ())\n": list(while(two(api.EAdd, num(1), num(2)))),
		strings.Repeat("(commit)", 51):       commits(51),
		strings.Repeat("(commit)\r\n", 150):  commits(150),
	}
	told := map[int]int{}
	for _, s := range texts {
		p, f := parse.Parse(s)
		if f.Code != 0 {
			t.Fatalf("%s: %v", short(s), f)
		}
		for b, l := range behind {
			want := api.Program{Vars: p.Vars, Body: append(append([]api.Stmt(nil), p.Body...), l...)}
			if countParts(want.Body) > api.MaxParts {
				wantFault(t, s+" "+b, api.ErrMany, -1)
				told[1]++
			} else {
				wantProgram(t, s+" "+b, want)
				told[0]++
			}
		}
	}
	if told[0] < 10 || told[1] < 10 {
		t.Errorf("programs and faults: %v", told)
	}
}

// countParts: statements and expressions.
func countParts(l []api.Stmt) int {
	n := 0
	for _, s := range l {
		n += 1 + countExprs(s.E) + countExprs(s.F) + countParts(s.Body) + countParts(s.Else)
	}
	return n
}

func countExprs(e api.Expr) int {
	if e.Op == 0 {
		return 0
	}
	n := 1
	for _, x := range e.L {
		n += countExprs(x)
	}
	return n
}
