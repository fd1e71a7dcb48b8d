package life_test

import (
	"fmt"
	"math/rand"
	"testing"

	"overwinter/api"
	"overwinter/code"
)

// chance makes programs and steps by chance, in which what goes on often ends.
type chance struct {
	*rand.Rand
	vars int
	left int // so many parts may still come
}

func (c *chance) number() int64 {
	if c.Intn(8) == 0 {
		return int64(c.Uint64())
	}
	return c.Int63n(5) - 1
}

func (c *chance) expr(deep int) api.Expr {
	c.left--
	op := 1 + c.Intn(api.ESame)
	if deep >= api.MaxDeep || c.left < 8 {
		op = api.ENum + c.Intn(2)
	}
	switch {
	case op >= api.EAdd:
		return two(op, c.expr(deep+1), c.expr(deep+1))
	case op == api.EGet:
		return get(c.Intn(c.vars), c.index(deep+1))
	case op == api.EVar:
		return first(c.Intn(c.vars))
	}
	return num(c.number())
}

// index: most often a number that says a cell.
func (c *chance) index(deep int) api.Expr {
	if c.Intn(9) == 0 {
		return c.expr(deep)
	}
	c.left--
	return num(c.Int63n(2))
}

func (c *chance) stmt(deep int) api.Stmt {
	c.left--
	op := 1 + c.Intn(api.SCommit)
	if deep >= api.MaxDeep {
		op = api.SCommit
	}
	switch op {
	case api.SSet:
		return set(c.Intn(c.vars), c.expr(deep+1))
	case api.SPut:
		return put(c.Intn(c.vars), c.index(deep+1), c.expr(deep+1))
	case api.SPrint:
		return tell(c.expr(deep + 1))
	case api.SRead:
		return read(c.Intn(c.vars))
	case api.SWhile:
		return while(c.expr(deep+1), c.list(deep+1, 4)...)
	case api.SIf:
		return either(c.expr(deep+1), c.list(deep+1, 4), c.list(deep+1, 3))
	}
	return commit()
}

func (c *chance) list(deep, longest int) []api.Stmt {
	var l []api.Stmt
	for range c.Intn(longest + 1) {
		if c.left > 30 {
			l = append(l, c.stmt(deep))
		}
	}
	return l
}

// chosen: a program by a seed, with an input.
func (c *chance) chosen() (api.Program, []int64) {
	c.vars, c.left = 1+c.Intn(api.MaxVars), api.MaxParts-20
	var p api.Program
	for i := range c.vars {
		p.Vars = append(p.Vars, one(string(rune('a'+i)), 2+c.Intn(5)))
	}
	p.Body = c.list(0, 30)
	var input []int64
	for range c.Intn(12) {
		input = append(input, c.number())
	}
	return p, input
}

// step: of so many instructions at most.
func (c *chance) step(longest int) api.Step {
	n := c.Intn(longest + 1)
	switch c.Intn(4) {
	case 0:
		return api.Step{Kind: api.LCrash, N: c.Int(), K: -c.Int(), Mask: c.Uint64()}
	case 1:
		return api.Step{Kind: api.LRun, N: n, K: -c.Int(), Mask: c.Uint64()}
	}
	k := c.Intn(4)
	if c.Intn(4) == 0 {
		k = c.Intn(20)
	}
	return tear(n, k, c.Uint64())
}

// TestLivesOfChance: programs that come to their end, or stop with a code, in lives of steps by chance, which come to that.
func TestLivesOfChance(t *testing.T) {
	const longest = 300
	met, commits := map[int]int{}, 0
	for seed := range 3000 {
		c := &chance{Rand: rand.New(rand.NewSource(int64(seed)))}
		p, input := c.chosen()
		if k := code.Check(p); k != 0 {
			t.Fatalf("seed %d: it is no program: %d", seed, k)
		}
		x := newCourse(t, p, input, longest)
		if !x.ends {
			continue
		}
		met[x.last().Code]++
		for _, is := range x.commits {
			if is {
				commits++
			}
		}
		for range 3 {
			var l []api.Step
			for range c.Intn(12) {
				l = append(l, c.step(x.took()*2/3+2))
			}
			wantLife(t, fmt.Sprint("seed ", seed), x, l...)
		}
	}
	for _, c := range []int{0, api.ErrIndex, api.ErrInput} {
		if met[c] < 100 {
			t.Errorf("only %d programs came to code %d", met[c], c)
		}
	}
	if commits < 1000 {
		t.Errorf("only %d commits", commits)
	}
}

// TestEndlessOfChance: programs that don't end, in lives of not more instructions than are known.
func TestEndlessOfChance(t *testing.T) {
	const longest = 200
	met := 0
	for seed := range 1500 {
		c := &chance{Rand: rand.New(rand.NewSource(int64(seed)))}
		p, input := c.chosen()
		x := newCourse(t, p, input, longest)
		if x.ends {
			continue
		}
		met++
		name := fmt.Sprint("seed ", seed)
		for range 3 {
			y, m := born(t, p, input...), &model{course: x}
			for range 15 {
				wantModel(t, name, y, m, c.step(min(40, longest-m.now)))
			}
		}
	}
	if met < 50 {
		t.Errorf("only %d programs do not end", met)
	}
}

// TestAnySteps: with any numbers in them nothing panics, and one that has a code does nothing.
func TestAnySteps(t *testing.T) {
	c := &chance{Rand: rand.New(rand.NewSource(1))}
	edge := func() int {
		l := []int{0, 1, 2, 3, 4, -1, 5, 99, api.MaxFuel, api.MaxFuel + 1, least, most, 1 << 32, c.Int(), -c.Int()}
		return l[c.Intn(len(l))]
	}
	codes := map[int]int{}
	for range 3000 {
		p, input := c.chosen()
		x := born(t, p, input...)
		for range 12 {
			s := api.Step{Kind: c.Intn(6) - 1, N: edge(), K: edge(), Mask: c.Uint64()}
			was := x.Now()
			n, k := x.Do(s)
			codes[k]++
			if n < 0 || s.Kind == api.LCrash && n != 0 || n > 0 && n > s.N {
				t.Fatalf("Do of %v: %d", s, n)
			}
			if k != 0 && (n != 0 || !sameResult(x.Now(), was)) {
				t.Fatalf("Do of %v has code %d, and did something", s, k)
			}
		}
	}
	if len(codes) != 3 || codes[0] < 1000 || codes[api.ErrKind] < 1000 || codes[api.ErrRange] < 1000 {
		t.Errorf("how often which code: %v", codes)
	}
}
