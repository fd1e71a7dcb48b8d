package desk_test

import (
	"fmt"
	"math/big"
	"math/rand"
	"regexp"
	"strings"
	"testing"

	"overwinter/api"
	"overwinter/desk"
	"overwinter/ideal"
	"overwinter/life"
	"overwinter/parse"
)

// model: what a desk is, said once more, line by line.
type model struct {
	text  string
	laid  int // so many lines of the text
	input []int64
	x     *life.Life
}

var shortest = regexp.MustCompile(`^(0|-?[1-9][0-9]*)$`)

// numbersOf: false: one of the words is none.
func numbersOf(words []string) (l []int64, ok bool) {
	for _, s := range words {
		n, isOne := new(big.Int).SetString(s, 10)
		if !shortest.MatchString(s) || !isOne || !n.IsInt64() {
			return nil, false
		}
		l = append(l, n.Int64())
	}
	return l, true
}

// wordsOf: byte by byte.
func wordsOf(s string) (l []string) {
	word := ""
	for _, c := range append([]byte(s), ' ') {
		switch {
		case c != ' ':
			word += string([]byte{c})
		case word != "":
			l = append(l, word)
			word = ""
		}
	}
	return l
}

func (m *model) do(s string) string {
	if len(s) > 0 && s[0] == '|' {
		if m.laid++; m.laid > 1 {
			m.text += "\n"
		}
		m.text += s[1:]
		return ""
	}
	words := wordsOf(s)
	if len(words) == 0 {
		return ""
	}
	n, ok := numbersOf(words[1:])
	if !ok {
		return "what\n"
	}
	switch form := fmt.Sprint(words[0], " ", len(n)); {
	case words[0] == "input":
		m.input = n
		return ""
	case form == "new 0":
		m.text, m.laid = "", 0
		return ""
	case form == "boot 0" || form == "ideal 1":
		return m.ask(n)
	case m.x == nil:
		return "what\n"
	case form == "now 0":
		return resultOf(m.x.Now())
	case form == "run 1":
		return m.step(api.Step{Kind: api.LRun, N: int(n[0])})
	case form == "crash 1":
		return m.step(api.Step{Kind: api.LCrash, Mask: uint64(n[0])})
	case form == "tear 3":
		return m.step(api.Step{Kind: api.LTear, N: int(n[0]), K: int(n[1]), Mask: uint64(n[2])})
	}
	return "what\n"
}

func (m *model) step(s api.Step) string {
	if did, c := m.x.Do(s); c == 0 {
		return fmt.Sprintln("did", did)
	} else {
		return fmt.Sprintln("no", c)
	}
}

// ask: boot, where there are no numbers; else ideal.
func (m *model) ask(n []int64) string {
	p, f := parse.Parse(m.text)
	if f.Code != 0 {
		return fmt.Sprintln("no", f.Code, f.At)
	}
	if len(n) == 1 {
		r, took, c := ideal.Run(p, m.input, int(n[0]))
		if c != 0 {
			return fmt.Sprintln("no", c)
		}
		return fmt.Sprintln("took", took) + resultOf(r)
	}
	x, c := life.New(p, m.input)
	if c != 0 {
		return fmt.Sprintln("no", c)
	}
	m.x = x
	return "ok\n"
}

// chance makes lines by chance, most of which are some.
type chance struct{ *rand.Rand }

func (c chance) of(l ...string) string { return l[c.Intn(len(l))] }

func (c chance) number() string {
	switch c.Intn(12) {
	case 0:
		return c.of("9223372036854775807", "-9223372036854775808", "9223372036854775808", "-9223372036854775809", "-0", "+1", "01", "x", "3000", "3001", "-1", "-2", "1x", "\t", "-", "|")
	case 1:
		return fmt.Sprint(int64(c.Uint64()))
	}
	return fmt.Sprint(c.Intn(9))
}

func (c chance) blanks(fewest int) string {
	if c.Intn(10) == 0 {
		return strings.Repeat(" ", fewest+c.Intn(4))
	}
	return strings.Repeat(" ", fewest)
}

// order: a word and numbers, most often as many as it should have.
func (c chance) order() string {
	word := c.of("new", "input", "boot", "boot", "boot", "ideal", "ideal", "run", "run", "run", "crash", "tear", "tear", "tear", "now", "now", "now", "x", "7", "|now")
	n := map[string]int{"ideal": 1, "run": 1, "crash": 1, "tear": 3}[word]
	if word == "input" {
		n = c.Intn(7)
	}
	if word == "input" && c.Intn(5) == 0 {
		n = api.MaxInput + c.Intn(2)
	}
	if c.Intn(20) == 0 {
		n = c.Intn(5)
	}
	s := c.blanks(0) + word
	for range n {
		s += c.blanks(1) + c.number()
	}
	return s + c.blanks(0)
}

// textLine: most often of a program.
func (c chance) textLine() string {
	return c.of("", "let a 1", "let b 3", "(read a)", "(print (var a))", "(commit)", "(commit)", "(print (num -5)) (commit)", "(set a (add (var a) (num 1)))",
		"(while (less (var a) (num 9)) ((set a (add (var a) (num 1))) (print (var a)) (commit)))",
		"(put b (var a) (num 7))", "(if (get b (num 1)) ((commit)) ((print (num 2)) (read a)))", " (commit", ")", "x", "#", "\t", "(print (num 01))")
}

func (c chance) line() string {
	switch c.Intn(16) {
	case 0, 1:
		return "|" + c.textLine()
	case 2:
		return c.of("", " ", "\t", "\r", "\xff", "now now", "  |", "what", "run1")
	}
	return c.order()
}

// program: lines that lay one anew, most often, and boot it.
func (c chance) program() []string {
	l := lines("new", "|let a 1", "|let b 3")
	for range c.Intn(8) {
		l = append(l, "|"+c.textLine())
		if c.Intn(9) > 0 && strings.ContainsAny(l[len(l)-1], "x#") {
			l = l[:len(l)-1]
		}
	}
	return append(l, "boot")
}

// TestAnyLines: told is what the model tells, however the lines are parted into several Do.
func TestAnyLines(t *testing.T) {
	met := map[string]int{}
	for seed := range 4000 {
		c := chance{rand.New(rand.NewSource(int64(seed)))}
		var all []string
		for len(all) < 100 {
			if c.Intn(8) == 0 {
				all = append(all, c.program()...)
			}
			all = append(all, c.line())
		}
		m, whole := &model{}, ""
		for _, s := range all {
			told := m.do(s)
			word, _, _ := strings.Cut(told, " ")
			met[strings.TrimSuffix(word, "\n")]++
			whole += told
		}
		wantDo(t, desk.New(), all, whole)
		d, parts := desk.New(), ""
		for left := all; len(left) > 0; {
			n := 1 + c.Intn(len(left))
			s, f := d.Do(left[:n])
			if f.Code != 0 {
				t.Fatalf("seed %d: fault %v", seed, f)
			}
			parts += s
			left = left[n:]
		}
		if parts != whole {
			t.Fatalf("seed %d, parted:\n%q, want\n%q", seed, parts, whole)
		}
	}
	for _, word := range lines("", "what", "ok", "no", "took", "did", "code") {
		if met[word] < 1000 {
			t.Errorf("%q was told only %d times", word, met[word])
		}
	}
}

// TestAnyBytes: nothing panics, and what is told is lines of words that are told.
func TestAnyBytes(t *testing.T) {
	thing := regexp.MustCompile(`^((what|ok|no -?[0-9]+( -?[0-9]+)?|(did|took|code) [0-9]+|(out|cells)( -?[0-9]+)*)\n)*$`)
	c := chance{rand.New(rand.NewSource(1))}
	const bytes = "|| \t\r\n0123456789--+()newbotruncashdilputtrw\x00\xff\x80"
	for range 20000 {
		var l []string
		for range c.Intn(12) {
			s := c.of("", "|", "run ", "tear ", "input ", "|let a 1 ", "boot", "now", "ideal ", "crash ")
			for range c.Intn(12) {
				s += string([]byte{bytes[c.Intn(len(bytes))]})
			}
			l = append(l, s)
		}
		d := desk.New()
		for range 2 {
			s, f := d.Do(l)
			if broken := strings.Contains(strings.Join(l, ""), "\n"); !thing.MatchString(s) || broken != (f.Code == api.ErrLine) || f.Code != 0 && s != "" {
				t.Fatalf("%q: %q, fault %v", l, s, f)
			}
		}
	}
}
