package parse_test

import (
	"strings"
	"testing"
	"unsafe"

	"overwinter/api"
	"overwinter/parse"
)

// span: a piece of memory, from a byte on, to another one.
type span struct{ from, to uintptr }

func spanOf[T any](l []T) span {
	if cap(l) == 0 {
		return span{}
	}
	from := uintptr(unsafe.Pointer(unsafe.SliceData(l)))
	return span{from, from + uintptr(cap(l))*unsafe.Sizeof(l[:1][0])}
}

// spans: of all lists of a program, with what lies behind their lengths.
func spans(p api.Program) []span {
	return append(stmtSpans(p.Body), spanOf(p.Vars))
}

func stmtSpans(l []api.Stmt) []span {
	out := []span{spanOf(l)}
	for _, s := range l {
		out = append(out, exprSpans(s.E.L)...)
		out = append(out, exprSpans(s.F.L)...)
		out = append(out, stmtSpans(s.Body)...)
		out = append(out, stmtSpans(s.Else)...)
	}
	return out
}

func exprSpans(l []api.Expr) []span {
	out := []span{spanOf(l)}
	for _, e := range l {
		out = append(out, exprSpans(e.L)...)
	}
	return out
}

// TestNewMemory: no two lists of one answer, or of two, share any.
func TestNewMemory(t *testing.T) {
	for _, s := range []string{rich, rich + rich[strings.Index(rich, "("):], "let a 1 let b 1 (put a (var b) (var b)) (if (num 1) () ()) (while (num 1) ((read a) (read a) (read a)))"} {
		a, f := parse.Parse(s)
		b, g := parse.Parse(s)
		if f.Code != 0 || g.Code != 0 {
			t.Fatalf("%s: %v %v", short(s), f, g)
		}
		l := append(spans(a), spans(b)...)
		for i, x := range l {
			for _, y := range l[:i] {
				if x.from < y.to && y.from < x.to {
					t.Errorf("%s: two lists share memory", short(s))
				}
			}
		}
	}
}

// TestNamesAreNew: no name keeps the text that it was read from.
func TestNamesAreNew(t *testing.T) {
	s := strings.Clone(rich)
	from := uintptr(unsafe.Pointer(unsafe.StringData(s)))
	p, _ := parse.Parse(s)
	if len(p.Vars) != 3 {
		t.Fatalf("%v: want three variables", p.Vars)
	}
	for _, x := range p.Vars {
		if at := uintptr(unsafe.Pointer(unsafe.StringData(x.Name))); at >= from && at < from+uintptr(len(s)) {
			t.Errorf("%v: its name is a piece of the text", x)
		}
	}
}

// TestAskedAgain: the answer hangs on the text alone, whatever was asked between and whatever was done with an answer.
func TestAskedAgain(t *testing.T) {
	texts := []string{"", rich, "(commit)", "(commit", "(read a)", "let a 1 (read a)", "let a 0", "let a 1 let a 1", "_", strings.Repeat("(", api.MaxText+1), deepest(api.MaxDeep+1, "(num 1)")}
	for _, s := range texts {
		want, f := parse.Parse(s)
		want = withNils(want)
		for _, other := range texts {
			p, _ := parse.Parse(other)
			spoil(p)
			if got, g := parse.Parse(s); f != g || !alike(got, want) {
				t.Errorf("%s behind %s: %v %v, want %v %v", short(s), short(other), got, g, want, f)
			}
		}
	}
}

// spoil writes over all that a program's lists have.
func spoil(p api.Program) {
	for i := range p.Vars {
		p.Vars[i] = api.Var{Name: "spoiled", Size: -1}
	}
	spoilStmts(p.Body)
}

func spoilStmts(l []api.Stmt) {
	for i, s := range l {
		spoilExprs(s.E.L)
		spoilExprs(s.F.L)
		spoilStmts(s.Body)
		spoilStmts(s.Else)
		l[i] = api.Stmt{Op: -1}
	}
}

func spoilExprs(l []api.Expr) {
	for i, e := range l {
		spoilExprs(e.L)
		l[i] = api.Expr{Op: -1}
	}
}
