package desk

import (
	"slices"
	"strconv"
	"strings"

	"overwinter/api"
	"overwinter/ideal"
	"overwinter/life"
	"overwinter/parse"
)

// clerk is a desk and a report, and lives as long as one Do: it does lines at the one, and tells what comes of them in the other.
type clerk struct {
	*Desk
	report
}

func (c *clerk) line(s string) {
	if more, ok := strings.CutPrefix(s, "|"); ok {
		// A copy: a piece of what was handed in would keep all of it.
		c.text = append(c.text, strings.Clone(more))
		return
	}
	// By runes as by bytes: in no rune of several bytes, whole or broken, is one a blank.
	words := strings.FieldsFunc(s, func(r rune) bool { return r == ' ' })
	if len(words) > 0 && !c.obey(words[0], words[1:]) {
		c.tell("what")
	}
}

// obey does what a word and the numbers behind it say; false: nothing is done, as there is no such line, or not now.
func (c *clerk) obey(word string, behind []string) bool {
	n, ok := numbers(behind)
	if !ok {
		return false
	}
	l := c.orders()
	at := slices.IndexFunc(l, func(o order) bool {
		return o.word == word && o.takes(len(n)) && (c.life != nil || !o.living)
	})
	if at < 0 {
		return false
	}
	l[at].do(n)
	return true
}

// numbers answers those that words are; false: one of them is none.
func numbers(words []string) ([]int64, bool) {
	var l []int64
	for _, s := range words {
		n, err := strconv.ParseInt(s, 10, 64)
		// Only what is written for the number is as short as can be.
		if err != nil || strconv.FormatInt(n, 10) != s {
			return nil, false
		}
		l = append(l, n)
	}
	return l, true
}

// order is a kind of lines.
type order struct {
	word    string
	numbers int  // so many stand behind the word
	living  bool // is it one only where there is a life?
	do      func(n []int64)
}

const asManyAsThereAre = -1

func (o order) takes(n int) bool {
	return o.numbers == asManyAsThereAre || o.numbers == n
}

// orders answers all kinds, row by row as in the chapter's table.
func (c *clerk) orders() []order {
	return []order{
		{"new", 0, false, func([]int64) { c.text = nil }},
		{"input", asManyAsThereAre, false, func(n []int64) { c.input = n }},
		{"boot", 0, false, func([]int64) { c.program(c.boot) }},
		{"ideal", 1, false, func(n []int64) {
			c.program(func(p api.Program) { c.ideal(p, int(n[0])) })
		}},
		{"run", 1, true, func(n []int64) {
			c.step(api.Step{Kind: api.LRun, N: int(n[0])})
		}},
		{"crash", 1, true, func(n []int64) {
			c.step(api.Step{Kind: api.LCrash, Mask: uint64(n[0])})
		}},
		{"tear", 3, true, func(n []int64) {
			c.step(api.Step{Kind: api.LTear, N: int(n[0]), K: int(n[1]), Mask: uint64(n[2])})
		}},
		{"now", 0, true, func([]int64) { c.result(c.life.Now()) }},
	}
}

// program hands on the program that the text is; of a text that is none the fault is told.
func (c *clerk) program(do func(p api.Program)) {
	p, f := parse.Parse(strings.Join(c.text, "\n"))
	if f.Code != 0 {
		c.tell("no", int64(f.Code), int64(f.At))
		return
	}
	do(p)
}

func (c *clerk) boot(p api.Program) {
	x, code := life.New(p, c.input)
	if c.refused(code) {
		return
	}
	c.life = x
	c.tell("ok")
}

func (c *clerk) ideal(p api.Program, fuel int) {
	x, took, code := ideal.Run(p, c.input, fuel)
	if c.refused(code) {
		return
	}
	c.tell("took", int64(took))
	c.result(x)
}

func (c *clerk) step(s api.Step) {
	did, code := c.life.Do(s)
	if c.refused(code) {
		return
	}
	c.tell("did", int64(did))
}
