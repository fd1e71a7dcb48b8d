package parse_test

import (
	"fmt"
	"math/rand"
	"slices"
	"strings"
	"testing"

	"overwinter/api"
	"overwinter/token"
)

// goal: what must come, and in how many others it stands.
type goal struct {
	what string
	deep int
}

// behind: what must come behind a verb or a word, one behind the other, up to the bracket.
var behind = map[string]string{
	"set": "name expr", "put": "name expr expr", "print": "expr", "read": "name", "while": "expr list", "if": "expr list list", "commit": "",
	"num": "number", "var": "name", "get": "name expr", "add": "expr expr", "sub": "expr expr", "mul": "expr expr", "less": "expr expr", "same": "expr expr",
}

// model: which fault a text has, by a stack of goals; and how often something came that counts for code.Check.
type model struct {
	goals []goal
	names []string
	sizes []int64
	parts int
}

func (m *model) push(l ...goal) {
	slices.Reverse(l)
	m.goals = append(m.goals, l...)
}

func (m *model) pop() goal {
	g := m.goals[len(m.goals)-1]
	m.goals = m.goals[:len(m.goals)-1]
	return g
}

func modelFault(s string) api.Fault {
	tokens, f := token.Scan(s)
	if f.Code != 0 {
		return f
	}
	m := &model{goals: []goal{{"lets", 0}}}
	for _, x := range tokens {
		if c := m.token(x); c != 0 {
			return api.Fault{Code: c, At: x.At}
		}
	}
	if c := m.end(); c != 0 {
		return api.Fault{Code: c, At: len(s)}
	}
	if c := m.check(); c != 0 {
		return api.Fault{Code: c, At: -1}
	}
	return api.Fault{}
}

// token: goals are made smaller until one takes the token.
func (m *model) token(x token.Token) int {
	for {
		g := m.pop()
		switch {
		case g.what == "lets" && x.Text == "let":
			m.push(goal{"newname", 0}, goal{"size", 0}, goal{"lets", 0})
			return 0
		case g.what == "lets":
			m.push(goal{"top", 0})
		case g.what == "top":
			m.push(goal{"stmt", 0}, goal{"top", 0})
		case g.what == "more" && x.Text == ")":
			return 0
		case g.what == "more":
			m.push(goal{"stmt", g.deep}, g)
		default:
			return m.take(g, x)
		}
	}
}

func (m *model) take(g goal, x token.Token) int {
	isName := !x.Num && x.Text != "(" && x.Text != ")" && len(x.Text) <= 8
	switch g.what {
	case "stmt", "expr":
		if g.deep > 12 {
			return api.ErrDeep
		}
		m.push(goal{map[string]string{"stmt": "verb", "expr": "word"}[g.what], g.deep + 1})
		m.parts++
		return formUnless(x.Text == "(")
	case "list":
		m.push(goal{"more", g.deep})
		return formUnless(x.Text == "(")
	case "verb", "word":
		for _, what := range strings.Fields(behind[x.Text] + " )") {
			m.goals = append(m.goals, goal{what, g.deep})
		}
		slices.Reverse(m.goals[len(m.goals)-len(strings.Fields(behind[x.Text]))-1:])
		return formUnless(g.what == "verb" && slices.Contains(allVerbs, x.Text) || g.what == "word" && slices.Contains(allWords, x.Text))
	case "newname":
		m.names = append(m.names, x.Text)
		return formUnless(isName)
	case "size":
		m.sizes = append(m.sizes, x.N)
		return formUnless(x.Num)
	case "number":
		return formUnless(x.Num)
	case "name":
		if isName && !slices.Contains(m.names, x.Text) {
			return api.ErrNone
		}
		return formUnless(isName)
	}
	return formUnless(x.Text == g.what)
}

func formUnless(ok bool) int {
	if ok {
		return 0
	}
	return api.ErrForm
}

// end: the code, if the text ends where a goal is left.
func (m *model) end() int {
	switch g := m.pop(); {
	case g.what == "lets" || g.what == "top":
		return 0
	case (g.what == "stmt" || g.what == "expr") && g.deep > 12:
		return api.ErrDeep
	}
	return api.ErrShort
}

func (m *model) check() int {
	if len(m.names) > 8 {
		return api.ErrMany
	}
	var sum int64
	for i, name := range m.names {
		if slices.Contains(m.names[:i], name) {
			return api.ErrTwice
		}
		if m.sizes[i] < 1 || m.sizes[i] > 48-sum {
			return api.ErrRange
		}
		sum += m.sizes[i]
	}
	if m.parts > 150 {
		return api.ErrMany
	}
	return 0
}

// wantModel: and the code that is told.
func wantModel(t *testing.T, s string) int {
	t.Helper()
	f := modelFault(s)
	if f.Code != 0 {
		wantFault(t, s, f.Code, f.At)
	} else {
		wantNoFault(t, s)
	}
	return f.Code
}

// writer makes programs by chance, and their texts.
type writer struct {
	*rand.Rand
	names []string
	text  []string
	left  int // so many expressions and statements may still come
}

func (w *writer) write(l ...string) { w.text = append(w.text, l...) }

func (w *writer) name() int {
	v := w.Intn(len(w.names))
	w.write(w.names[v])
	return v
}

func (w *writer) expr(deep int) api.Expr {
	w.left--
	kinds := 8
	if deep >= api.MaxDeep || w.left < 5 || w.Intn(4) == 0 {
		kinds = 2
	}
	e := api.Expr{Op: 1 + w.Intn(kinds)}
	w.write("(", allWords[e.Op-1])
	parts := 2
	switch e.Op {
	case api.ENum:
		e.N = w.Int63n(21) - 10
		w.write(fmt.Sprint(e.N))
		parts = 0
	case api.EVar:
		e.V = w.name()
		parts = 0
	case api.EGet:
		e.V = w.name()
		parts = 1
	}
	for range parts {
		e.L = append(e.L, w.expr(deep+1))
	}
	w.write(")")
	return e
}

func (w *writer) stmts(deep, most int) []api.Stmt {
	var l []api.Stmt
	for range w.Intn(most + 1) {
		if w.left > 5 {
			l = append(l, w.stmt(deep))
		}
	}
	return l
}

func (w *writer) list(deep int) []api.Stmt {
	w.write("(")
	l := w.stmts(deep, 3)
	w.write(")")
	return l
}

func (w *writer) stmt(deep int) api.Stmt {
	w.left--
	s := api.Stmt{Op: 1 + w.Intn(7)}
	if deep >= api.MaxDeep {
		s.Op = []int{api.SRead, api.SCommit}[w.Intn(2)]
	}
	w.write("(", allVerbs[s.Op-1])
	switch s.Op {
	case api.SSet:
		s.V, s.E = w.name(), w.expr(deep+1)
	case api.SPut:
		s.V, s.E, s.F = w.name(), w.expr(deep+1), w.expr(deep+1)
	case api.SPrint:
		s.E = w.expr(deep + 1)
	case api.SRead:
		s.V = w.name()
	case api.SWhile:
		s.E, s.Body = w.expr(deep+1), w.list(deep+1)
	case api.SIf:
		s.E, s.Body, s.Else = w.expr(deep+1), w.list(deep+1), w.list(deep+1)
	}
	w.write(")")
	return s
}

// program: its text is what was written.
func (w *writer) program() api.Program {
	var p api.Program
	for range 1 + w.Intn(4) {
		name := append(allVerbs, "a", "b", "x", "let", "get", "abcdefgh")[w.Intn(13)]
		if slices.Contains(w.names, name) {
			continue
		}
		size := 1 + w.Intn(12)
		w.names = append(w.names, name)
		w.write("let", name, fmt.Sprint(size))
		p.Vars = append(p.Vars, api.Var{Name: name, Size: size})
	}
	p.Body = w.stmts(0, 8)
	return p
}

// spread: tokens with blanks between them by chance.
func spread(r *rand.Rand, l []string) string {
	var b strings.Builder
	for _, x := range l {
		b.WriteString(x)
		b.WriteString([]string{" ", "\n", "\t", "\r\n", "  "}[r.Intn(5)])
	}
	return b.String()
}

func TestAnyPrograms(t *testing.T) {
	told := map[int]int{}
	for i := range 3000 {
		w := &writer{Rand: rand.New(rand.NewSource(int64(i))), left: api.MaxParts}
		p := w.program()
		for _, s := range []string{strings.Join(w.text, " "), dense(w.text), spread(w.Rand, w.text)} {
			switch n := countParts(p.Body); {
			case len(s) > api.MaxText:
				wantFault(t, s, api.ErrMany, api.MaxText)
			case n > api.MaxParts:
				wantFault(t, s, api.ErrMany, -1)
				told[api.ErrMany]++
			default:
				wantProgram(t, s, p)
				told[n/50]++
			}
		}
	}
	for c, n := range []int{1000, 500, 100, 50} {
		if told[c] < n {
			t.Errorf("programs by their size: %v, want %d of %d", told, n, c)
		}
	}
}

// TestChangedPrograms: texts of programs in which some tokens are other ones, are left out, stand twice, or are turned round.
func TestChangedPrograms(t *testing.T) {
	told := map[int]int{}
	for i := range 12000 {
		w := &writer{Rand: rand.New(rand.NewSource(int64(i))), left: 6 + i%140}
		w.program()
		l := w.text
		for range 1 + w.Intn(3) {
			l = changed(w.Rand, l)
		}
		told[wantModel(t, spread(w.Rand, l))]++
	}
	for _, c := range []int{0, api.ErrForm, api.ErrShort, api.ErrNone, api.ErrRange, api.ErrTwice} {
		if told[c] < 20 {
			t.Errorf("code %d is what only %d texts come to", c, told[c])
		}
	}
}

func changed(r *rand.Rand, l []string) []string {
	l = slices.Clone(l)
	if len(l) == 0 {
		return l
	}
	at, by := r.Intn(len(l)), candidates()
	switch r.Intn(7) {
	case 0:
		l[at] = by[r.Intn(len(by))]
	case 1:
		l = slices.Insert(l, at, by[r.Intn(len(by))])
	case 2:
		l = slices.Delete(l, at, at+1)
	case 3:
		l = l[:at]
	case 4:
		to := r.Intn(len(l))
		l[at], l[to] = l[to], l[at]
	case 5:
		to := min(len(l), at+1+r.Intn(6))
		l = slices.Insert(l, to, l[at:to]...)
	case 6:
		if at = slices.Index(l, "let"); at >= 0 && at+2 < len(l) {
			l[at+2] = []string{"0", "1", "40", "48", "49", "-1"}[r.Intn(6)]
		}
	}
	return l
}

// TestAllShortTexts: of tokens of each kind.
func TestAllShortTexts(t *testing.T) {
	kinds := []string{"(", ")", "1", "a", "b", "let", "set", "read", "while", "commit", "if", "num", "var", "get", "add", "abcdefghi"}
	for _, ahead := range []string{"", "let a 1 "} {
		texts := []string{ahead}
		for range 9 {
			var longer []string
			for _, s := range texts {
				for _, x := range kinds {
					// What has a fault ahead of its end has it whatever comes behind: it need not go on.
					if c := wantModel(t, s+x+" "); c == 0 || c == api.ErrShort {
						longer = append(longer, s+x+" ")
					}
				}
			}
			texts = longer
			if len(texts) > 30000 {
				break
			}
		}
	}
}

// TestDeepTexts: bits that go on so, most of which open something, and behind them one that may not.
func TestDeepTexts(t *testing.T) {
	r := rand.New(rand.NewSource(6))
	bits := []string{"(num 1)", "(var a)", "(get a", "(get a", "(add", "(less", "(while (num 1) (", "(while (get a (num 1)) (", "(if (num 1) () (", "(if (var a) () (", "(print", "(set a", "(put a", "(commit)", "(read a)", ")", "b", "7"}
	told := map[int]int{}
	for range 5000 {
		s := "let a 1 "
		for range r.Intn(90) {
			next := s + bits[r.Intn(len(bits))] + " "
			if c := modelFault(next).Code; c != api.ErrForm {
				s = next
			}
		}
		told[wantModel(t, s)]++
		told[wantModel(t, s+bits[r.Intn(len(bits))])]++
	}
	for _, c := range []int{0, api.ErrForm, api.ErrShort, api.ErrDeep} {
		if told[c] < 100 {
			t.Errorf("code %d is what only %d texts come to", c, told[c])
		}
	}
}

// TestAnyBytes: whatever it is given, it ends and tells what the model tells.
func TestAnyBytes(t *testing.T) {
	r := rand.New(rand.NewSource(7))
	for range 5000 {
		b := make([]byte, r.Intn(60))
		for i := range b {
			b[i] = byte(r.Intn(256))
		}
		wantModel(t, string(b))
	}
	for at := range rich {
		for _, c := range []byte{'(', ')', ' ', 'a', '1', '-', '_', 0, 255} {
			wantModel(t, rich[:at]+string([]byte{c})+rich[at:])
			wantModel(t, rich[:at]+string([]byte{c})+rich[at+1:])
		}
		wantModel(t, rich[:at])
		wantModel(t, rich[at:])
		wantModel(t, rich[:at]+rich[at+1:])
	}
}
