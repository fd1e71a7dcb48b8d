package code_test

import (
	"fmt"
	"math/big"
	"reflect"
	"regexp"
	"slices"
	"testing"

	"overwinter/api"
)

var nameForm = regexp.MustCompile(`\A[a-z]{1,8}\z`)

// model: what Check is to tell, by a list of all rules for each thing in its order.
func model(p api.Program) int {
	if len(p.Vars) > 8 {
		return api.ErrMany
	}
	sum, names := new(big.Int), []string{}
	for _, x := range p.Vars {
		sum.Add(sum, big.NewInt(int64(x.Size)))
		if code := firstBroken(
			rule{api.ErrName, nameForm.MatchString(x.Name)},
			rule{api.ErrTwice, !slices.Contains(names, x.Name)},
			rule{api.ErrRange, x.Size > 0 && sum.Cmp(big.NewInt(48)) <= 0},
		); code != 0 {
			return code
		}
		names = append(names, x.Name)
	}
	for i, x := range items(&p) {
		if code := modelItem(x, i, len(p.Vars)); code != 0 {
			return code
		}
	}
	return 0
}

// rule: it is told by this code, unless it is kept.
type rule struct {
	code int
	kept bool
}

func firstBroken(l ...rule) int {
	for _, r := range l {
		if !r.kept {
			return r.code
		}
	}
	return 0
}

func modelItem(x item, i, vars int) int {
	v, kind, form := 0, false, false
	if x.s != nil {
		v, kind, form = x.s.V, x.s.Op > 0 && x.s.Op < 8, modelStmt(*x.s)
	} else {
		v, kind, form = x.e.V, x.e.Op > 0 && x.e.Op < 9, modelExpr(*x.e)
	}
	return firstBroken(
		rule{api.ErrDeep, x.deep <= 12},
		rule{api.ErrMany, i < 150},
		rule{api.ErrKind, kind},
		rule{api.ErrForm, form},
		rule{api.ErrRange, !x.hasVar() || v >= 0 && v < vars},
		rule{api.ErrForm, x.hasVar() || v == 0},
	)
}

func modelStmt(s api.Stmt) bool {
	none := func(e api.Expr) bool { return e.Op == 0 && e.V == 0 && e.N == 0 && len(e.L) == 0 }
	switch s.Op {
	case api.SIf:
		return none(s.F)
	case api.SWhile:
		return none(s.F) && len(s.Else) == 0
	case api.SPut:
		return len(s.Body) == 0 && len(s.Else) == 0
	case api.SSet, api.SPrint:
		return none(s.F) && len(s.Body) == 0 && len(s.Else) == 0
	}
	return none(s.E) && none(s.F) && len(s.Body) == 0 && len(s.Else) == 0
}

func modelExpr(e api.Expr) bool {
	switch e.Op {
	case api.ENum:
		return len(e.L) == 0
	case api.EVar:
		return len(e.L) == 0 && e.N == 0
	case api.EGet:
		return len(e.L) == 1 && e.N == 0
	}
	return len(e.L) == 2 && e.N == 0
}

// numbers: the same ones in each run.
type numbers uint64

func (r *numbers) below(n int) int {
	*r = *r*6364136223846793005 + 1442695040888963407
	return int(uint64(*r)>>33) % n
}

// expr: of any kinds, most of them right.
func (r *numbers) expr(deep int) api.Expr {
	e := api.Expr{Op: 1 + r.below(2)}
	if deep > 0 {
		e.Op = 1 + r.below(8)
	}
	switch e.Op {
	case api.ENum:
		e.N = int64(r.below(5) - 2)
	case api.EVar:
		e.V = r.below(3)
	case api.EGet:
		e = get(r.below(3), r.expr(deep-1))
	default:
		e = two(e.Op, r.expr(deep-1), r.expr(deep-1))
	}
	return e
}

// body: statements of any kinds, in one another as deep as is said.
func (r *numbers) body(deep int) []api.Stmt {
	kinds := 5
	if deep > 0 {
		kinds = 7
	}
	var l []api.Stmt
	for range r.below(5) {
		switch r.below(kinds) {
		case 0:
			l = append(l, set(r.below(3), r.expr(3)))
		case 1:
			l = append(l, put(r.below(3), r.expr(2), r.expr(3)))
		case 2:
			l = append(l, tell(r.expr(4)))
		case 3:
			l = append(l, read(r.below(3)))
		case 4:
			l = append(l, commit())
		case 5:
			l = append(l, while(r.expr(1), r.body(deep-1)...))
		default:
			l = append(l, either(r.expr(2), r.body(deep-1), r.body(deep-1)))
		}
	}
	return l
}

// TestAnyPrograms: programs by chance, with some changes: what Check tells of them, and whether they are the same.
func TestAnyPrograms(t *testing.T) {
	told := map[int]int{}
	for i := range 4000 {
		r := numbers(i)
		p := api.Program{Vars: sized(1+r.below(20), 1+r.below(20), 1+r.below(8)), Body: r.body(4)}
		q := withNils(p)
		for range r.below(4) {
			c := changesOf(&q)
			c.do[r.below(len(c.do))]()
			q = withNils(q)
		}
		want := model(q)
		told[want]++
		wantCheck(t, fmt.Sprint("program ", i), q, want)
		wantCheck(t, fmt.Sprint("program ", i), withEmpties(q), want)
		wantSame(t, fmt.Sprint("program ", i), p, q, reflect.DeepEqual(withNils(p), withNils(q)))
	}
	for _, want := range []int{0, api.ErrRange, api.ErrKind, api.ErrMany, api.ErrForm, api.ErrName, api.ErrTwice} {
		if told[want] < 5 {
			t.Errorf("code %d is what only %d programs come to", want, told[want])
		}
	}
}
