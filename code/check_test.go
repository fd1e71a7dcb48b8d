package code_test

import (
	"fmt"
	"math"
	"reflect"
	"slices"
	"testing"

	"overwinter/api"
	"overwinter/code"
)

func wantCheck(t *testing.T, name string, p api.Program, want int) {
	t.Helper()
	if got := code.Check(p); got != want {
		t.Errorf("%q: Check: %d, want %d", name, got, want)
	}
}

// wantBody: of statements, with three variables ahead of them.
func wantBody(t *testing.T, name string, want int, l ...api.Stmt) {
	t.Helper()
	wantCheck(t, name, api.Program{Vars: vars(3), Body: l}, want)
}

func TestPrograms(t *testing.T) {
	for name, p := range programs() {
		wantCheck(t, name, p, 0)
	}
}

func TestVarsAtTheirEdges(t *testing.T) {
	for name, c := range map[string]struct {
		l    []api.Var
		want int
	}{
		"one":                     {vars(1), 0},
		"as many as may be":       {vars(api.MaxVars), 0},
		"one more":                {vars(api.MaxVars + 1), api.ErrMany},
		"many more":               {vars(600), api.ErrMany},
		"one more, wrong ones":    {make([]api.Var, api.MaxVars+1), api.ErrMany},
		"one more, one too great": {sized(99, 1, 1, 1, 1, 1, 1, 1, 1), api.ErrMany},
		"a name of one letter":    {[]api.Var{{Name: "z", Size: 1}}, 0},
		"a name of most letters":  {[]api.Var{{Name: "abcdefgh", Size: 1}}, 0},
		"a name of one more":      {[]api.Var{{Name: "abcdefghi", Size: 1}}, api.ErrName},
		"no name":                 {[]api.Var{{Size: 1}}, api.ErrName},
		"twice side by side":      {[]api.Var{{Name: "a", Size: 1}, {Name: "a", Size: 1}}, api.ErrTwice},
		"twice far apart":         {[]api.Var{{Name: "ab", Size: 1}, {Name: "a", Size: 1}, {Name: "b", Size: 1}, {Name: "ab", Size: 2}}, api.ErrTwice},
		"the last ones twice":     {append(vars(7), api.Var{Name: "g", Size: 1}), api.ErrTwice},
		"the beginning of one":    {[]api.Var{{Name: "ab", Size: 1}, {Name: "a", Size: 1}, {Name: "abc", Size: 1}, {Name: "ba", Size: 1}}, 0},
		"size 0":                  {sized(0), api.ErrRange},
		"size 1":                  {sized(1), 0},
		"size below 0":            {sized(-1), api.ErrRange},
		"most cells":              {sized(api.MaxCells), 0},
		"one cell more":           {sized(api.MaxCells + 1), api.ErrRange},
		"most cells of two":       {sized(47, 1), 0},
		"one cell more of two":    {sized(47, 2), api.ErrRange},
		"one behind all cells":    {sized(48, 1), api.ErrRange},
		"most cells of eight":     {sized(6, 6, 6, 6, 6, 6, 6, 6), 0},
		"one more of eight":       {sized(6, 6, 6, 6, 6, 6, 6, 7), api.ErrRange},
		"0 behind others":         {sized(3, 0), api.ErrRange},
		"below 0, to come back":   {sized(48, -1, 1), api.ErrRange},
		"greatest":                {sized(math.MaxInt), api.ErrRange},
		"smallest":                {sized(math.MinInt), api.ErrRange},
		"1 and the greatest":      {sized(1, math.MaxInt), api.ErrRange},
		"48 and the greatest":     {sized(48, math.MaxInt), api.ErrRange},
		"1 and the smallest":      {sized(1, math.MinInt), api.ErrRange},
		"greatest ones":           {sized(math.MaxInt, math.MaxInt, 2), api.ErrRange},
		"greatest and 1":          {sized(math.MaxInt, 1), api.ErrRange},
		"smallest ones":           {sized(math.MinInt, math.MinInt, 1), api.ErrRange},
		"beyond 32 bits":          {sized(1<<32+1, 1), api.ErrRange},
		"beyond 32 bits, second":  {sized(1, 1<<32), api.ErrRange},
	} {
		wantCheck(t, name, api.Program{Vars: c.l}, c.want)
		wantCheck(t, name+", and a commit", api.Program{Vars: c.l, Body: commits(1)}, c.want)
	}
	for _, s := range wrongNames() {
		wantCheck(t, s, api.Program{Vars: []api.Var{{Name: s, Size: 1}}}, api.ErrName)
		wantCheck(t, s, api.Program{Vars: append(vars(3), api.Var{Name: s, Size: 1})}, api.ErrName)
	}
}

// TestVarsInTheirOrder: of one variable the name, that it stands twice, its size; and one variable ahead of the next.
func TestVarsInTheirOrder(t *testing.T) {
	good, name, twice, size := api.Var{Name: "a", Size: 1}, api.Var{Name: "A", Size: 1}, api.Var{Name: "a", Size: 1}, api.Var{Name: "b", Size: 0}
	great := api.Var{Name: "c", Size: 48}
	for what, c := range map[string]struct {
		l    []api.Var
		want int
	}{
		"name ahead of twice":          {[]api.Var{good, name, twice}, api.ErrName},
		"name ahead of size":           {[]api.Var{good, name, size}, api.ErrName},
		"twice ahead of name":          {[]api.Var{good, twice, name}, api.ErrTwice},
		"twice ahead of size":          {[]api.Var{good, twice, size}, api.ErrTwice},
		"size ahead of name":           {[]api.Var{good, size, name}, api.ErrRange},
		"size ahead of twice":          {[]api.Var{good, size, twice}, api.ErrRange},
		"cells ahead of name":          {[]api.Var{good, great, name}, api.ErrRange},
		"cells ahead of twice":         {[]api.Var{good, great, twice}, api.ErrRange},
		"no name and no size":          {[]api.Var{{}}, api.ErrName},
		"no name, twice":               {[]api.Var{good, {Name: "A"}, {Name: "A"}}, api.ErrName},
		"no name, too great":           {[]api.Var{good, {Name: "A", Size: 48}}, api.ErrName},
		"twice, and no size":           {[]api.Var{good, {Name: "a"}}, api.ErrTwice},
		"twice, and too great":         {[]api.Var{good, {Name: "a", Size: 48}}, api.ErrTwice},
		"twice, and the greatest":      {[]api.Var{good, {Name: "a", Size: math.MaxInt}}, api.ErrTwice},
		"a size, and twice behind it":  {[]api.Var{{Name: "a"}, {Name: "a"}}, api.ErrRange},
		"as many as may be, one wrong": {append(vars(7), name), api.ErrName},
	} {
		for _, body := range [][]api.Stmt{nil, commits(1), list(api.Stmt{}), commits(151)} {
			wantCheck(t, what, api.Program{Vars: c.l, Body: body}, c.want)
		}
	}
}

// wrong: something that is told by a code.
type wrong[T any] struct {
	name string
	x    T
	code int
}

// badExprs: each breaks one rule, with three variables.
func badExprs() []wrong[api.Expr] {
	var l []wrong[api.Expr]
	add := func(code int, name string, x api.Expr) {
		l = append(l, wrong[api.Expr]{fmt.Sprint("expression of kind ", x.Op, ", ", name), x, code})
	}
	for _, op := range append([]int{api.ENum - 1, api.ESame + 1, -1}, far...) {
		add(api.ErrKind, "no kind", api.Expr{Op: op})
		add(api.ErrKind, "no kind, and all else", api.Expr{Op: op, V: 99, N: 1, L: []api.Expr{num(1)}})
		add(api.ErrKind, "no kind, and two", api.Expr{Op: op, L: []api.Expr{num(1), num(1)}})
	}
	for op, parts := range []int{api.ENum: 0, api.EVar: 0, api.EGet: 1, api.EAdd: 2, api.ESub: 2, api.EMul: 2, api.ELess: 2, api.ESame: 2} {
		if op == 0 {
			continue
		}
		good := api.Expr{Op: op, L: slices.Repeat([]api.Expr{num(1)}, parts)}
		for n := range 5 {
			if n != parts {
				x := api.Expr{Op: op, L: slices.Repeat([]api.Expr{num(1)}, n)}
				add(api.ErrForm, fmt.Sprint(n, " in it"), x)
				x.L = make([]api.Expr, n)
				add(api.ErrForm, fmt.Sprint(n, " of no kind in it"), x)
				x.V = 99
				add(api.ErrForm, fmt.Sprint(n, " in it and no such variable"), x)
			}
		}
		for _, n := range []int64{1, -1, 1 << 32, math.MaxInt64, math.MinInt64} {
			x := good
			if x.N = n; op != api.ENum {
				add(api.ErrForm, fmt.Sprint("N ", n), x)
				x.V = 99
				add(api.ErrForm, fmt.Sprint("N ", n, " and no such variable"), x)
			}
		}
		for _, v := range append([]int{-1, 3, 4}, far...) {
			x := good
			x.V = v
			add(codeOfV(op == api.EVar || op == api.EGet), fmt.Sprint("V ", v), x)
		}
		if x := good; op != api.EVar && op != api.EGet {
			x.V = 1
			add(api.ErrForm, "V of a variable", x)
		}
	}
	return l
}

// codeOfV: what is told of a V that is no variable.
func codeOfV(has bool) int {
	if has {
		return api.ErrRange
	}
	return api.ErrForm
}

// goodStmts: one of each kind.
func goodStmts() []api.Stmt {
	return list(
		set(1, num(1)), put(1, num(1), num(2)), tell(num(1)), read(1),
		while(num(1), commit()), either(num(1), list(commit()), list(commit())), commit(),
	)
}

// badStmts: each breaks one rule, with three variables.
func badStmts() []wrong[api.Stmt] {
	var l []wrong[api.Stmt]
	add := func(code int, name string, x api.Stmt) {
		l = append(l, wrong[api.Stmt]{fmt.Sprint("statement of kind ", x.Op, ", ", name), x, code})
	}
	for _, op := range append([]int{api.SSet - 1, api.SCommit + 1, -1}, far...) {
		add(api.ErrKind, "no kind", api.Stmt{Op: op})
		for _, x := range goodStmts() {
			x.Op = op
			add(api.ErrKind, "no kind, and all else", x)
		}
		add(api.ErrKind, "no kind, and all wrong", api.Stmt{Op: op, V: 99, E: num(1), F: api.Expr{Op: 99}, Body: make([]api.Stmt, 1), Else: make([]api.Stmt, 1)})
	}
	not := []api.Expr{num(0), num(7), first(0), {Op: 99}, {Op: -1}, {V: 1}, {V: -1}, {N: 1}, {N: math.MinInt64}, {L: []api.Expr{num(1)}}, {L: make([]api.Expr, 1)}}
	for _, good := range goodStmts() {
		for _, x := range notOfKind(good, not) {
			add(api.ErrForm, fmt.Sprint("something that it has not: ", x), x)
			x.V = 99
			add(api.ErrForm, fmt.Sprint("something that it has not, and a V: ", x), x)
		}
		has := item{s: &good}.hasVar()
		for _, v := range append([]int{-1, 3, 4}, far...) {
			x := good
			x.V = v
			add(codeOfV(has), fmt.Sprint("V ", v), x)
		}
		if x := good; !has {
			x.V = 1
			add(api.ErrForm, "V of a variable", x)
			x.V = 2
			add(api.ErrForm, "V of the last variable", x)
		}
		if x := good; x.Op != api.SRead && x.Op != api.SCommit {
			x.E = api.Expr{}
			add(api.ErrKind, "no E", x)
		}
		if x := good; x.Op == api.SPut {
			x.F = api.Expr{}
			add(api.ErrKind, "no F", x)
		}
	}
	return l
}

// notOfKind: the statement with something more that its kind has not.
func notOfKind(good api.Stmt, not []api.Expr) []api.Stmt {
	var l []api.Stmt
	with := func(has bool, change func(*api.Stmt)) {
		if x := good; !has {
			change(&x)
			l = append(l, x)
		}
	}
	op := good.Op
	for _, e := range not {
		with(op != api.SRead && op != api.SCommit, func(x *api.Stmt) { x.E = e })
		with(op == api.SPut, func(x *api.Stmt) { x.F = e })
	}
	for _, more := range [][]api.Stmt{commits(1), commits(2), make([]api.Stmt, 1)} {
		with(op == api.SWhile || op == api.SIf, func(x *api.Stmt) { x.Body = more })
		with(op == api.SIf, func(x *api.Stmt) { x.Else = more })
	}
	return l
}

// stmtPlaces: places of a program where a statement may stand.
func stmtPlaces() map[string]func(api.Stmt) []api.Stmt {
	return map[string]func(api.Stmt) []api.Stmt{
		"alone":                  func(s api.Stmt) []api.Stmt { return list(s) },
		"ahead":                  func(s api.Stmt) []api.Stmt { return list(s, commit(), read(0)) },
		"behind":                 func(s api.Stmt) []api.Stmt { return append(rich().Body, s) },
		"between":                func(s api.Stmt) []api.Stmt { return list(set(0, num(1)), s, read(0)) },
		"in a while":             func(s api.Stmt) []api.Stmt { return list(while(num(1), s)) },
		"in a while, behind":     func(s api.Stmt) []api.Stmt { return list(while(num(1), read(0), s)) },
		"in a body":              func(s api.Stmt) []api.Stmt { return list(either(num(1), list(s), nil)) },
		"in a body, behind":      func(s api.Stmt) []api.Stmt { return list(either(num(1), list(read(0), s), list(read(0)))) },
		"in an else":             func(s api.Stmt) []api.Stmt { return list(either(num(1), nil, list(s))) },
		"in an else, behind":     func(s api.Stmt) []api.Stmt { return list(either(num(1), list(read(0)), list(read(0), s))) },
		"in others":              func(s api.Stmt) []api.Stmt { return list(while(num(1), either(num(1), list(while(num(0), s)), nil))) },
		"behind one with others": func(s api.Stmt) []api.Stmt { return list(while(num(1), while(num(2), read(0))), s) },
	}
}

// exprPlaces: places of a statement where an expression may stand.
func exprPlaces() map[string]func(api.Expr) api.Stmt {
	m := map[string]func(api.Expr) api.Stmt{
		"set":        func(e api.Expr) api.Stmt { return set(0, e) },
		"put":        func(e api.Expr) api.Stmt { return put(0, e, num(1)) },
		"put, F":     func(e api.Expr) api.Stmt { return put(0, num(1), e) },
		"print":      func(e api.Expr) api.Stmt { return tell(e) },
		"while":      func(e api.Expr) api.Stmt { return while(e, commit()) },
		"if":         func(e api.Expr) api.Stmt { return either(e, list(commit()), list(commit())) },
		"get":        func(e api.Expr) api.Stmt { return tell(get(0, e)) },
		"get in get": func(e api.Expr) api.Stmt { return tell(get(0, get(1, e))) },
		"in others": func(e api.Expr) api.Stmt {
			return put(0, num(1), two(api.EMul, num(1), two(api.ESub, get(0, e), num(1))))
		},
	}
	for op := api.EAdd; op <= api.ESame; op++ {
		m[fmt.Sprint("left of ", op)] = func(e api.Expr) api.Stmt { return set(0, two(op, e, num(1))) }
		m[fmt.Sprint("right of ", op)] = func(e api.Expr) api.Stmt { return set(0, two(op, num(1), e)) }
	}
	return m
}

func TestEachWrongStatementAtEachPlace(t *testing.T) {
	for where, at := range stmtPlaces() {
		for _, good := range goodStmts() {
			wantBody(t, where, 0, at(good)...)
		}
		for _, bad := range badStmts() {
			wantBody(t, bad.name+" "+where, bad.code, at(bad.x)...)
		}
	}
}

func TestEachWrongExpressionAtEachPlace(t *testing.T) {
	for what, of := range exprPlaces() {
		for _, good := range []api.Expr{num(0), num(math.MinInt64), num(math.MaxInt64), first(0), first(2), get(2, num(1)), two(api.EAdd, num(1), num(2))} {
			wantBody(t, what, 0, of(good))
		}
		for _, bad := range badExprs() {
			wantBody(t, bad.name+" "+what, bad.code, of(bad.x))
			for where, at := range stmtPlaces() {
				wantBody(t, bad.name+" "+what+" "+where, bad.code, at(of(bad.x))...)
			}
		}
	}
}

// TestVarsAreCounted: the first and the last variable, of each number of them; the ones just beside them.
func TestVarsAreCounted(t *testing.T) {
	for n := range api.MaxVars + 1 {
		for v := -2; v <= api.MaxVars+1; v++ {
			want := codeOfV(true)
			if v >= 0 && v < n {
				want = 0
			}
			for _, s := range list(read(v), set(v, num(1)), put(v, num(1), num(1)), tell(first(v)), tell(get(v, num(1)))) {
				wantCheck(t, fmt.Sprint(n, " variables, ", s), api.Program{Vars: vars(n), Body: list(s)}, want)
			}
		}
	}
}

// spoil: ways to make an item of a program wrong, with the code that is told then, and without a change to another item.
func spoil() []func(item) int {
	return []func(item) int{
		func(x item) int {
			if x.s != nil {
				x.s.Op = api.SCommit + 1
			} else {
				x.e.Op = api.ESame + 1
			}
			return api.ErrKind
		},
		func(x item) int {
			if x.s != nil {
				x.s.V = -1
			} else {
				x.e.V = -1
			}
			return codeOfV(x.hasVar())
		},
		func(x item) int {
			switch {
			case x.s != nil && x.s.Op == api.SPut:
				x.s.Else = commits(1)
			case x.s != nil:
				x.s.F = num(1)
			case x.e.Op == api.ENum:
				x.e.L = []api.Expr{num(1)}
			default:
				x.e.N = 1
			}
			return api.ErrForm
		},
	}
}

// TestFirstIsTold: of two that are wrong the one is told that stands ahead, with all that is in it.
func TestFirstIsTold(t *testing.T) {
	n := len(items(&api.Program{Body: rich().Body}))
	for i := range n {
		for j := i + 1; j < n; j++ {
			for a, ahead := range spoil() {
				for b, behind := range spoil() {
					p := rich()
					l := items(&p)
					want := ahead(l[i])
					behind(l[j])
					wantCheck(t, fmt.Sprint("items ", i, " and ", j, " spoiled by ", a, " and ", b), p, want)
				}
			}
		}
	}
}

// TestStatementsBehindVars: what is wrong with a variable is told ahead.
func TestStatementsBehindVars(t *testing.T) {
	for _, bad := range badStmts() {
		body := list(bad.x)
		wantCheck(t, bad.name, api.Program{Vars: vars(9), Body: body}, api.ErrMany)
		wantCheck(t, bad.name, api.Program{Vars: append(vars(3), api.Var{Size: 1}), Body: body}, api.ErrName)
		wantCheck(t, bad.name, api.Program{Vars: append(vars(3), vars(1)...), Body: body}, api.ErrTwice)
		wantCheck(t, bad.name, api.Program{Vars: sized(1, 1, 0), Body: body}, api.ErrRange)
	}
	body := append(commits(150), list(tell(nest(13, num(1), gets)))...)
	wantCheck(t, "too many", api.Program{Vars: sized(0), Body: body}, api.ErrRange)
	wantCheck(t, "too deep", api.Program{Vars: []api.Var{{}}, Body: body[150:]}, api.ErrName)
}

// TestMostParts: each program with as many commits more as may be, and one more.
func TestMostParts(t *testing.T) {
	for name, p := range programs() {
		room := api.MaxParts - len(items(&p))
		for _, more := range []int{room - 1, room, room + 1, room + 2} {
			want := 0
			if more > room {
				want = api.ErrMany
			}
			wantCheck(t, name+", commits ahead", api.Program{Vars: p.Vars, Body: append(commits(more), p.Body...)}, want)
			wantCheck(t, name+", commits behind", api.Program{Vars: p.Vars, Body: append(p.Body[:len(p.Body):len(p.Body)], commits(more)...)}, want)
			wantCheck(t, name+", commits in a while", api.Program{Vars: p.Vars, Body: append(list(while(num(1), commits(more-2)...)), p.Body...)}, want)
		}
	}
	wantBody(t, "very many", api.ErrMany, commits(100000)...)
	wantBody(t, "prints", 0, slices.Repeat(list(tell(num(1))), 75)...)
	wantBody(t, "prints, and one more", api.ErrMany, slices.Repeat(list(tell(num(1))), 76)...)
	wantBody(t, "prints, and a commit more", api.ErrMany, append(slices.Repeat(list(tell(num(1))), 75), commit())...)
}

// TestWrongAtMostParts: what is wrong with the last part that may be is told; of one more only that it is one more.
func TestWrongAtMostParts(t *testing.T) {
	for _, bad := range badStmts() {
		p := api.Program{Vars: vars(3), Body: append(commits(149), bad.x)}
		if len(items(&p)) == 150 {
			wantCheck(t, bad.name+", the last part", p, bad.code)
		}
		p.Body = append(commits(150), bad.x)
		wantCheck(t, bad.name+", one more", p, api.ErrMany)
	}
	for what, of := range exprPlaces() {
		for _, bad := range badExprs() {
			p := api.Program{Vars: vars(3), Body: list(of(bad.x))}
			at := slices.IndexFunc(items(&p), func(x item) bool { return x.e != nil && reflect.DeepEqual(*x.e, bad.x) })
			p.Body = append(commits(149-at), of(bad.x))
			wantCheck(t, bad.name+" "+what+", the last part", p, bad.code)
			p.Body = append(commits(150-at), of(bad.x))
			wantCheck(t, bad.name+" "+what+", one more", p, api.ErrMany)
		}
	}
}

// nest: something in so many others.
func nest[T any](n int, x T, in func(T) T) T {
	for range n {
		x = in(x)
	}
	return x
}

func gets(e api.Expr) api.Expr   { return get(0, e) }
func whiles(s api.Stmt) api.Stmt { return while(num(1), s) }

// exprNests: ways to stand in another expression.
func exprNests() map[string]func(api.Expr) api.Expr {
	return map[string]func(api.Expr) api.Expr{
		"get":   gets,
		"left":  func(e api.Expr) api.Expr { return two(api.EAdd, e, num(1)) },
		"right": func(e api.Expr) api.Expr { return two(api.ESame, num(1), e) },
		"three": func(e api.Expr) api.Expr { return two(api.EMul, first(0), get(1, two(api.ELess, e, e))) },
	}
}

// stmtNests: ways to stand in another statement.
func stmtNests() map[string]func(api.Stmt) api.Stmt {
	return map[string]func(api.Stmt) api.Stmt{
		"while":          whiles,
		"while, behind":  func(s api.Stmt) api.Stmt { return while(num(1), commit(), s) },
		"body":           func(s api.Stmt) api.Stmt { return either(num(1), list(s), nil) },
		"body and else":  func(s api.Stmt) api.Stmt { return either(num(1), list(s), list(commit())) },
		"else":           func(s api.Stmt) api.Stmt { return either(num(1), nil, list(s)) },
		"else, behind":   func(s api.Stmt) api.Stmt { return either(num(1), list(commit()), list(commit(), s)) },
		"one in another": func(s api.Stmt) api.Stmt { return while(num(1), either(num(1), nil, list(s))) },
	}
}

// deepest: in how many others stands what stands in most of them?
func deepest(l []api.Stmt) int {
	most := 0
	for _, x := range stmtItems(l, 0) {
		most = max(most, x.deep)
	}
	return most
}

func codeOfDeep(deep int) int {
	if deep > api.MaxDeep {
		return api.ErrDeep
	}
	return 0
}

func TestMostDeep(t *testing.T) {
	for what, of := range exprPlaces() {
		for how, in := range exprNests() {
			for n := range 15 {
				if how == "three" && n > 4 {
					continue // more parts than may be
				}
				s := of(nest(n, num(1), in))
				wantBody(t, fmt.Sprint(what, ", ", n, " times ", how), codeOfDeep(deepest(list(s))), s)
			}
		}
	}
	for how, in := range stmtNests() {
		for n := range 15 {
			s := nest(n, commit(), in)
			wantBody(t, fmt.Sprint(n, " times ", how), codeOfDeep(deepest(list(s))), s)
			wantBody(t, fmt.Sprint(n, " times ", how, " behind others"), codeOfDeep(deepest(list(s))), append(commits(50), s)...)
		}
	}
}

// TestMostDeepMixed: an expression stands in the statements, too, that its own one stands in.
func TestMostDeepMixed(t *testing.T) {
	for how, in := range stmtNests() {
		for stmts := range 14 {
			for exprs := range 14 {
				s := nest(stmts, tell(nest(exprs, num(1), gets)), in)
				wantBody(t, fmt.Sprint(how, stmts, exprs), codeOfDeep(deepest(list(s))), s)
			}
		}
	}
}

// TestDeepWrittenOut: the edge, not reckoned by the walk of the tests.
func TestDeepWrittenOut(t *testing.T) {
	wantBody(t, "eleven gets in a print", 0, tell(nest(11, num(1), gets)))
	wantBody(t, "twelve gets in a print", api.ErrDeep, tell(nest(12, num(1), gets)))
	wantBody(t, "twelve whiles", 0, nest(12, commit(), whiles))
	wantBody(t, "thirteen whiles", api.ErrDeep, nest(13, commit(), whiles))
	wantBody(t, "twelve whiles with a print", api.ErrDeep, nest(12, tell(num(1)), whiles))
	wantBody(t, "eleven whiles with a print", 0, nest(11, tell(num(1)), whiles))
}

// TestDeepAheadOfAll: of one part deep comes ahead of many, many ahead of its kind.
func TestDeepAheadOfAll(t *testing.T) {
	for name, e := range map[string]api.Expr{"good": num(1), "no kind": {}, "form": {Op: api.ENum, L: make([]api.Expr, 3)}, "range": first(3)} {
		deep := tell(nest(12, e, gets)) // 14 parts, the last one too deep
		wantBody(t, name+", the last part", api.ErrDeep, append(commits(136), deep)...)
		wantBody(t, name+", one more than the last", api.ErrDeep, append(commits(137), deep)...)
		wantBody(t, name+", ahead of it one more than the last", api.ErrMany, append(commits(138), deep)...)
		wantBody(t, name+", alone", api.ErrDeep, deep)
	}
	for _, s := range list(api.Stmt{}, api.Stmt{Op: 99}, read(-1), tell(api.Expr{})) {
		wantBody(t, fmt.Sprint("thirteen whiles with ", s), api.ErrDeep, nest(13, s, whiles))
	}
	wantBody(t, "twelve whiles with no kind", api.ErrKind, nest(12, api.Stmt{}, whiles))
	wantBody(t, "wrong ahead of deep", api.ErrKind, api.Stmt{}, nest(13, commit(), whiles))
	wantBody(t, "deep ahead of wrong", api.ErrDeep, nest(13, commit(), whiles), api.Stmt{})
	wantBody(t, "wrong around deep", api.ErrForm, api.Stmt{Op: api.SWhile, V: 1, E: num(1), Body: list(nest(13, commit(), whiles))})
}

// TestListsThatHoldThemselves: they stand in themselves without end, so they are too deep.
func TestListsThatHoldThemselves(t *testing.T) {
	one, both, body, other := selfGet(1), selfAdd(1), selfWhile(1), selfElse(1)
	wantBody(t, "get", api.ErrDeep, tell(one[0]))
	wantBody(t, "add", api.ErrDeep, tell(both[0]))
	wantBody(t, "while", api.ErrDeep, body...)
	wantBody(t, "else", api.ErrDeep, other...)
	wantBody(t, "many", api.ErrMany, append(commits(150), other...)...)
}

func selfGet(v int) []api.Expr {
	l := []api.Expr{{Op: api.EGet, V: v}}
	l[0].L = l
	return l
}

func selfAdd(n int64) []api.Expr {
	l := []api.Expr{{Op: api.EAdd}, {Op: api.EAdd, N: n - 1}}
	l[0].L, l[1].L = l, l
	return l
}

func selfWhile(n int64) []api.Stmt {
	l := list(while(num(n)), commit())
	l[0].Body = l
	return l
}

func selfElse(n int64) []api.Stmt {
	l := list(either(num(n), nil, nil), commit())
	l[0].Else, l[0].Body = l, l[1:]
	return l
}

// TestNilIsEmptyInCheck: in each place that has a list, in programs and in what is none.
func TestNilIsEmptyInCheck(t *testing.T) {
	for name, p := range programs() {
		wantCheck(t, name+", nil", withNils(p), 0)
		wantCheck(t, name+", empty", withEmpties(p), 0)
	}
	for _, bad := range badStmts() {
		p := api.Program{Vars: vars(3), Body: list(bad.x)}
		wantCheck(t, bad.name+", nil", withNils(p), bad.code)
		wantCheck(t, bad.name+", empty", withEmpties(p), bad.code)
	}
	for _, bad := range badExprs() {
		p := api.Program{Vars: vars(3), Body: list(tell(bad.x))}
		wantCheck(t, bad.name+", nil", withNils(p), bad.code)
		wantCheck(t, bad.name+", empty", withEmpties(p), bad.code)
	}
	none := []api.Expr{}
	wantBody(t, "no E, with an empty list", 0, api.Stmt{Op: api.SRead, E: api.Expr{L: none}, F: api.Expr{L: none}})
	wantBody(t, "no F, with an empty list", 0, api.Stmt{Op: api.SPrint, E: api.Expr{Op: api.ENum, L: none}, F: api.Expr{L: none}, Body: list(), Else: list()})
	wantBody(t, "an E of no kind, with an empty list", api.ErrKind, api.Stmt{Op: api.SPrint, E: api.Expr{L: none}})
}

// TestCheckLeavesAll: nothing is changed, and what lies behind a list's length is as if it were not there.
func TestCheckLeavesAll(t *testing.T) {
	test := func(name string, p api.Program) {
		want := code.Check(p)
		for _, mark := range []int{0, 1, 99} {
			q := withMore(p, mark)
			before := whole(q)
			wantCheck(t, fmt.Sprint(name, ", and ", mark, " behind"), q, want)
			code.Cell(q, 2)
			code.Cells(q)
			if !reflect.DeepEqual(whole(q), before) {
				t.Errorf("%s: the program was changed", name)
			}
		}
		wantCheck(t, name+", again", p, want)
	}
	for name, p := range programs() {
		test(name, p)
	}
	for _, bad := range badStmts() {
		test(bad.name, api.Program{Vars: vars(3), Body: list(bad.x)})
	}
	for _, bad := range badExprs() {
		test(bad.name, api.Program{Vars: vars(3), Body: list(tell(bad.x))})
	}
	test("most variables", api.Program{Vars: vars(api.MaxVars)})
	test("most parts", api.Program{Body: commits(api.MaxParts)})
	test("most cells", api.Program{Vars: sized(40, 8)})
}
