package parse_test

import (
	"fmt"
	"slices"
	"strings"
	"testing"

	"overwinter/api"
	"overwinter/parse"
)

// form: a text, and of each of its tokens a letter that says what may stand there (see fits).
type form struct{ text, places string }

// forms: each verb and each word with all that its kind has, behind the variables a and b.
func forms() []form {
	return []form{
		{"", ""},
		{"( commit )", "l v e"},
		{"( commit ) ( commit )", "l v e t v e"},
		{"( read a )", "l v n e"},
		{"( set a ( num 5 ) )", "l v n b w i e e"},
		{"( put a ( num 1 ) ( var b ) )", "l v n b w i e b w n e e"},
		{"( print ( var b ) )", "l v b w n e e"},
		{"( print ( get a ( num 0 ) ) )", "l v b w n b w i e e e"},
		{"( print ( add ( num 1 ) ( num 2 ) ) )", "l v b w b w i e b w i e e e"},
		{"( print ( sub ( var a ) ( num 2 ) ) )", "l v b w b w n e b w i e e e"},
		{"( print ( mul ( num 1 ) ( var b ) ) )", "l v b w b w i e b w n e e e"},
		{"( print ( less ( num -1 ) ( num 2 ) ) )", "l v b w b w i e b w i e e e"},
		{"( print ( same ( get a ( num 1 ) ) ( num 2 ) ) )", "l v b w b w n b w i e e b w i e e e"},
		{"( while ( num 1 ) ( ) )", "l v b w i e b s e"},
		{"( while ( num 1 ) ( ( commit ) ) )", "l v b w i e b s v e s e"},
		{"( while ( var a ) ( ( read a ) ( commit ) ) ) ( commit )", "l v b w n e b s v n e s v e s e t v e"},
		{"( if ( num 1 ) ( ) ( ) )", "l v b w i e b s b s e"},
		{"( if ( num 1 ) ( ( commit ) ) ( ( read b ) ( commit ) ) )", "l v b w i e b s v e s b s v n e s v e s e"},
		{"( if ( num 1 ) ( ( while ( num 2 ) ( ) ) ) ( ( if ( num 3 ) ( ) ( ) ) ) )", "l v b w i e b s v b w i e b s e s b s v b w i e b s b s e s e"},
	}
}

// behindVars: the form with its variables ahead, token by token, and what may stand behind it.
func (f form) behindVars() (texts, places []string) {
	texts = strings.Fields("let a 2 let b 1 " + f.text)
	places = strings.Fields("l m i l m i " + f.places)
	if f.text == "" {
		return texts, append(places, "l")
	}
	return texts, append(places, "t")
}

// candidates: tokens of each kind.
func candidates() []string {
	return slices.Concat([]string{"(", ")", "0", "5", "-1", "9223372036854775807", "a", "b", "zz", "abcdefgh", "abcdefghi", "lets", "nums", "sets", "let"}, allWords, allVerbs)
}

// fits tells the code of a token that stands at a place; 0: it may stand there.
func fits(place, x string) int {
	number := strings.Trim(x, "-0123456789") == ""
	name := !number && x != "(" && x != ")" && len(x) <= 8
	ok := false
	switch place {
	case "b", "t":
		ok = x == "("
	case "e":
		ok = x == ")"
	case "s":
		ok = x == "(" || x == ")"
	case "l":
		ok = x == "(" || x == "let"
	case "v":
		ok = slices.Contains(allVerbs, x)
	case "w":
		ok = slices.Contains(allWords, x)
	case "i":
		ok = number
	case "m":
		ok = name
	case "n":
		if name && x != "a" && x != "b" {
			return api.ErrNone
		}
		ok = name
	default:
		panic(place)
	}
	if !ok {
		return api.ErrForm
	}
	return 0
}

func TestForms(t *testing.T) {
	for _, f := range forms() {
		texts, places := f.behindVars()
		if len(places) != len(texts)+1 {
			t.Fatalf("%q: %d tokens, %d places", f.text, len(texts), len(places))
		}
		for i, x := range texts {
			if c := fits(places[i], x); c != 0 {
				t.Fatalf("%q: token %d: code %d", f.text, i, c)
			}
		}
		if _, got := parse.Parse(strings.Join(texts, " ")); got != (api.Fault{}) {
			t.Errorf("%q: %v, want no fault", f.text, got)
		}
	}
}

// TestWrongTokens: at each place of each form each token that can't stand there, in the stead of what does or ahead of it, and whatever is behind.
func TestWrongTokens(t *testing.T) {
	told := map[int]int{}
	for _, f := range forms() {
		texts, places := f.behindVars()
		for i, place := range places {
			ahead := strings.Join(texts[:i], " ") + " "
			for _, x := range candidates() {
				c := fits(place, x)
				if c == 0 {
					continue
				}
				told[c]++
				wantFault(t, ahead+x, c, len(ahead))
				wantFault(t, ahead+x+" "+strings.Join(texts[i:], " "), c, len(ahead))
				wantFault(t, ahead+x+" "+strings.Join(texts[min(i+1, len(texts)):], " "), c, len(ahead))
				wantFault(t, ahead+"\t\n"+x+" ) ( let zz", c, len(ahead)+2)
			}
		}
	}
	if told[api.ErrForm] < 1000 || told[api.ErrNone] < 100 {
		t.Errorf("faults: %v", told)
	}
}

// TestTextsThatEnd: at each place of each form.
func TestTextsThatEnd(t *testing.T) {
	for _, f := range forms() {
		texts, places := f.behindVars()
		for i, place := range places {
			for _, blank := range []string{"", " ", "\r\n\t  "} {
				s := strings.Join(texts[:i], " ") + blank
				if place == "l" || place == "t" {
					if _, got := parse.Parse(s); got != (api.Fault{}) {
						t.Errorf("%q: %v, want no fault", s, got)
					}
					continue
				}
				wantFault(t, s, api.ErrShort, len(s))
			}
		}
	}
}

// TestFaultsByHand: some of them as one reads them in the document.
func TestFaultsByHand(t *testing.T) {
	for s, want := range map[string]api.Fault{
		"(":                              {Code: api.ErrShort, At: 1},
		")":                              {Code: api.ErrForm, At: 0},
		"()":                             {Code: api.ErrForm, At: 1},
		"((commit))":                     {Code: api.ErrForm, At: 1},
		"(commit))":                      {Code: api.ErrForm, At: 8},
		"(commit":                        {Code: api.ErrShort, At: 7},
		"(commit  ":                      {Code: api.ErrShort, At: 9},
		"5":                              {Code: api.ErrForm, At: 0},
		"a":                              {Code: api.ErrForm, At: 0},
		"commit":                         {Code: api.ErrForm, At: 0},
		"let":                            {Code: api.ErrShort, At: 3},
		"let let":                        {Code: api.ErrShort, At: 7},
		"let let let":                    {Code: api.ErrForm, At: 8},
		"let 1 a":                        {Code: api.ErrForm, At: 4},
		"let (a 1)":                      {Code: api.ErrForm, At: 4},
		"(let a 1)":                      {Code: api.ErrForm, At: 1},
		"let a b":                        {Code: api.ErrForm, At: 6},
		"let a 1 2":                      {Code: api.ErrForm, At: 8},
		"let a 1 b":                      {Code: api.ErrForm, At: 8},
		"(commit) let a 1":               {Code: api.ErrForm, At: 9},
		"let a 1 (commit) let b 1":       {Code: api.ErrForm, At: 17},
		"(add (num 1) (num 2))":          {Code: api.ErrForm, At: 1},
		"(num 1)":                        {Code: api.ErrForm, At: 1},
		"(print (commit))":               {Code: api.ErrForm, At: 8},
		"(print (set a))":                {Code: api.ErrForm, At: 8},
		"(print 5)":                      {Code: api.ErrForm, At: 7},
		"let a 1 (print a)":              {Code: api.ErrForm, At: 15},
		"let a 1 (set (var a) (num 1))":  {Code: api.ErrForm, At: 13},
		"(print (num 1) (num 2))":        {Code: api.ErrForm, At: 15},
		"(print (add (num 1)))":          {Code: api.ErrForm, At: 19},
		"(print (num))":                  {Code: api.ErrForm, At: 11},
		"(print (num a))":                {Code: api.ErrForm, At: 12},
		"(print (var 1))":                {Code: api.ErrForm, At: 12},
		"(while ((commit)))":             {Code: api.ErrForm, At: 8},
		"(while (num 1) (commit))":       {Code: api.ErrForm, At: 16},
		"(while (num 1))":                {Code: api.ErrForm, At: 14},
		"(while (num 1) () ())":          {Code: api.ErrForm, At: 18},
		"(if (num 1) ())":                {Code: api.ErrForm, At: 14},
		"(if (num 1) () () ())":          {Code: api.ErrForm, At: 18},
		"(if (num 1) ()":                 {Code: api.ErrShort, At: 14},
		"(if (num 1) ((commit)":          {Code: api.ErrShort, At: 21},
		"(read a)":                       {Code: api.ErrNone, At: 6},
		"(read a":                        {Code: api.ErrNone, At: 6},
		"let b 1 (read a) (read c)":      {Code: api.ErrNone, At: 14},
		"(print (var b))":                {Code: api.ErrNone, At: 12},
		"(print (get b (num 1)))":        {Code: api.ErrNone, At: 12},
		"let a 1 (set b (num 1))":        {Code: api.ErrNone, At: 13},
		"let ab 1 (put a (num 1)":        {Code: api.ErrNone, At: 14},
		strings.Repeat("(", 6000):        {Code: api.ErrForm, At: 1},
		strings.Repeat(")", 6000):        {Code: api.ErrForm, At: 0},
		strings.Repeat("let ", 1500):     {Code: api.ErrForm, At: 8},
		strings.Repeat("a", 6000):        {Code: api.ErrForm, At: 0},
		"let " + strings.Repeat("a", 90): {Code: api.ErrForm, At: 4},
	} {
		wantFault(t, s, want.Code, want.At)
	}
}

// TestSaidBehind: a name that is said only behind where it is used is none there.
func TestSaidBehind(t *testing.T) {
	wantFault(t, "(read a) let a 1", api.ErrNone, 6)
	wantFault(t, "let b 1 (read a) let a 1 (read a)", api.ErrNone, 14)
	wantFault(t, "let b 1 (read b) let a 1 (read a)", api.ErrForm, 17)
}

// TestScanFirst: what token.Scan tells comes first, whatever else is wrong, and wherever.
func TestScanFirst(t *testing.T) {
	for _, s := range []string{"", ")", "(read zz)", "(commit) let a 1", "(commit", "let a 0", "let a 1 let a 1 ", "(print (num x))", strings.Repeat("(while (num 1) (", 13), strings.Repeat("(commit)", 151)} {
		for _, bad := range []string{"_", "A", "-", "05", "-0", "9223372036854775808", "\x00", "\xff", "ä", "\v"} {
			wantFault(t, s+" "+bad, api.ErrText, len(s)+1)
			wantFault(t, s+" "+bad+" )", api.ErrText, len(s)+1)
			wantFault(t, bad+" "+s, api.ErrText, 0)
			wantFault(t, s+" "+bad+strings.Repeat(" ", api.MaxText-len(s)-len(bad)), api.ErrMany, api.MaxText)
		}
		wantFault(t, s+strings.Repeat(" ", api.MaxText+1-len(s)), api.ErrMany, api.MaxText)
	}
	wantProgram(t, "(commit)"+strings.Repeat(" ", api.MaxText-8), api.Program{Body: list(commit())})
	wantFault(t, "(commit)"+strings.Repeat(" ", api.MaxText-7), api.ErrMany, api.MaxText)
	wantFault(t, "(commit"+strings.Repeat(" ", api.MaxText-7), api.ErrShort, api.MaxText)
	wantFault(t, strings.Repeat("(commit)", 1<<18), api.ErrMany, api.MaxText)
}

// TestTheFirstFaultIsTold: of several the one that stands first in the text; those of the whole program come last.
func TestTheFirstFaultIsTold(t *testing.T) {
	wantFault(t, "let a 1 let a 0 (read zz) (what)", api.ErrNone, 22)
	wantFault(t, "let a 1 let a 0 (what) (read zz)", api.ErrForm, 17)
	wantFault(t, "let a 0 (read a", api.ErrShort, 15)
	wantFault(t, "let a 1 let a 1 (read a", api.ErrShort, 23)
	wantFault(t, "let a 1 let a 1 (read a) )", api.ErrForm, 25)
	wantFault(t, "(read zz", api.ErrNone, 6)
	wantFault(t, "(read zz 5 5", api.ErrNone, 6)
	wantFault(t, "(read 5 zz", api.ErrForm, 6)
	wantFault(t, "let a 99 5", api.ErrForm, 9)
	wantFault(t, strings.Repeat("let a 1 ", 9)+"(read b)", api.ErrNone, 78)
	wantFault(t, strings.Repeat("let a 1 ", 9)+"(read a", api.ErrShort, 79)
	wantFault(t, strings.Repeat("(commit)", 151)+"(read a)", api.ErrNone, 151*8+6)
	wantFault(t, strings.Repeat("(commit)", 151)+"(", api.ErrShort, 151*8+1)
	wantFault(t, whiles(13, "(commit)")+"(read zz)", api.ErrDeep, 199)
	wantFault(t, "(read zz)"+whiles(13, "(commit)"), api.ErrNone, 6)
	wantFault(t, "let a 0 let a 0"+whiles(13, ""), api.ErrDeep, 15+199)
}

// TestNoProgram: texts that are read whole, and what code.Check tells of them.
func TestNoProgram(t *testing.T) {
	nine := ""
	for i := range api.MaxVars + 1 {
		nine += fmt.Sprintf("let %c 1 ", 'a'+i)
	}
	for s, code := range map[string]int{
		nine:                            api.ErrMany,
		nine + "(read i)":               api.ErrMany,
		strings.Repeat("let a 0 ", 9):   api.ErrMany,
		strings.Repeat("let a 1 ", 700): api.ErrMany,
		"let a 1 let a 1":               api.ErrTwice,
		"let a 1 let b 1 let a 1":       api.ErrTwice,
		"let a 1 let a 0":               api.ErrTwice,
		"let a 1 let a 99 (read a)":     api.ErrTwice,
		"let a 1 let a 1 (read a) (print (get a (var a)))": api.ErrTwice,
		"let a 0 let a 1":                                                   api.ErrRange,
		"let a 48 let b 1":                                                  api.ErrRange,
		"let a 47 let b 2":                                                  api.ErrRange,
		"let a 40 let b 40 (read b)":                                        api.ErrRange,
		"let a 0" + strings.Repeat("(commit)", 151):                         api.ErrRange,
		strings.Repeat("(commit)", 151):                                     api.ErrMany,
		strings.Repeat("(commit)", 740):                                     api.ErrMany,
		strings.Repeat("(print (num 1))", 76):                               api.ErrMany,
		strings.Repeat("(print (num 1))", 75) + "(commit)":                  api.ErrMany,
		"(while (num 1) (" + strings.Repeat("(commit)", 149) + "))":         api.ErrMany,
		"(if (num 1) ((commit)) (" + strings.Repeat("(commit)", 148) + "))": api.ErrMany,
		"let a 1 let a 1" + strings.Repeat("(commit)", 151):                 api.ErrTwice,
	} {
		wantFault(t, s, code, -1)
		wantFault(t, "\n"+s+" ", code, -1)
	}
	for _, s := range []string{
		nine[:len(nine)-8],
		strings.Repeat("(commit)", 150),
		strings.Repeat("(print (num 1))", 75),
		"(while (num 1) (" + strings.Repeat("(commit)", 148) + "))",
		"(if (num 1) ((commit)) (" + strings.Repeat("(commit)", 147) + "))",
		"let a 47 let b 1",
	} {
		if _, f := parse.Parse(s); f != (api.Fault{}) {
			t.Errorf("%s: %v, want no fault", short(s), f)
		}
	}
}

func TestSizes(t *testing.T) {
	for n := range api.MaxCells {
		wantProgram(t, fmt.Sprint("let a ", n+1), api.Program{Vars: vars(api.Var{Name: "a", Size: n + 1})})
	}
	for _, size := range []string{"0", "49", "50", "-1", "-48", "256", "257", "65537", "2147483648", "4294967296", "4294967297", "-4294967295", "9223372036854775807", "-9223372036854775808", "-9223372036854775807"} {
		wantFault(t, "let a "+size, api.ErrRange, -1)
		wantFault(t, "let b 1 let a "+size+" (read a)", api.ErrRange, -1)
		wantFault(t, "let a "+size+" let b 1", api.ErrRange, -1)
		wantFault(t, "let a "+size+" let a 1", api.ErrRange, -1)
		wantFault(t, "let a 1 let a "+size, api.ErrTwice, -1)
	}
}

// whiles: what stands in so many statements, each of which has it in its Body. Its place is 16 bytes for each of them.
func whiles(n int, inner string) string {
	return strings.Repeat("(while (num 1) (", n) + inner + strings.Repeat("))", n)
}

// elses: likewise in its Else.
func elses(n int, inner string) string {
	return strings.Repeat("(if (num 1) () (", n) + inner + strings.Repeat("))", n)
}

const ofA = "let a 1 (print "

// deepest: what stands in so many others, a statement and expressions. Its place is behind ofA, and 7 bytes for each expression.
func deepest(n int, inner string) string {
	return ofA + strings.Repeat("(get a ", n-1) + inner + strings.Repeat(")", n)
}

// whatever: what may stand where a bracket should.
var whatever = []string{"(num 1)", "(var a)", "(var zz)", "(what)", "(commit)", "(", ")", "()", "a", "zz", "let", "num", "commit", "5", "abcdefghi"}

func TestDeepExpressions(t *testing.T) {
	const most = api.MaxDeep
	for n := 1; n <= most; n++ {
		e, s := num(7), deepest(n, "(num 7)")
		for range n - 1 {
			e = get(0, e)
		}
		wantProgram(t, s, api.Program{Vars: vars(api.Var{Name: "a", Size: 1}), Body: list(tell(e))})
		wantFault(t, deepest(n, "x"), api.ErrForm, len(ofA)+7*(n-1))
		wantFault(t, ofA+strings.Repeat("(get a ", n-1), api.ErrShort, len(ofA)+7*(n-1))
	}
	for n := most + 1; n < most+20; n++ {
		for _, x := range whatever {
			wantFault(t, deepest(n, x), api.ErrDeep, len(ofA)+7*most)
		}
	}
	at := len(ofA) + 7*most
	for _, x := range whatever {
		wantFault(t, (ofA + strings.Repeat("(get a ", most) + x), api.ErrDeep, at)
		wantFault(t, (ofA + strings.Repeat("(get a ", most) + " \n" + x), api.ErrDeep, at+2)
	}
	cut := ofA + strings.Repeat("(get a ", most)
	wantFault(t, cut, api.ErrDeep, at)
	wantFault(t, cut+"  \n", api.ErrDeep, at+3)
	wantFault(t, cut[:at-1], api.ErrDeep, at-1)
	wantFault(t, cut[:at-2], api.ErrShort, at-2)
	wantFault(t, cut[:at-2]+"zz", api.ErrNone, at-2)
	wantFault(t, cut[:at-2]+"5", api.ErrForm, at-2)
	wantFault(t, deepest(most, "(add (num 1) (num 2))"), api.ErrDeep, at-2)
	wantFault(t, deepest(most, "(add x"), api.ErrDeep, at-2)
	wantFault(t, deepest(most-1, "(add (num 1) (get a (num 2)))"), api.ErrDeep, at+6)
	wantFault(t, ofA+strings.Repeat("(get a ", 800), api.ErrDeep, at)
	wantFault(t, "(print "+strings.Repeat("(add (num 1) ", 400), api.ErrDeep, 7+13*(most-1)+5)
}

func TestDeepStatements(t *testing.T) {
	const most = api.MaxDeep
	for n := range most + 1 {
		in, other := list(commit()), list(commit())
		for range n {
			in, other = list(while(num(1), in...)), list(either(num(1), nil, other))
		}
		wantProgram(t, whiles(n, "(commit)"), api.Program{Body: in})
		wantProgram(t, elses(n, "(commit)"), api.Program{Body: other})
		wantFault(t, whiles(n, "(what)"), api.ErrForm, 16*n+1)
		wantFault(t, elses(n, "5"), api.ErrForm, 16*n)
	}
	for n := most + 1; n < most+20; n++ {
		for _, x := range whatever {
			wantFault(t, whiles(n, x), api.ErrDeep, 16*most+7)
			wantFault(t, elses(n, x), api.ErrDeep, 16*most+4)
		}
	}
	for _, x := range whatever {
		for _, verb := range []string{"(print ", "(while ", "(if ", "(set a ", "(put a "} {
			ahead := "let a 1 " + strings.Repeat("(while (num 1) (", most) + verb
			wantFault(t, ahead+x, api.ErrDeep, len(ahead))
			wantFault(t, ahead+"\t"+x+"))))", api.ErrDeep, len(ahead)+1)
			wantFault(t, ahead, api.ErrDeep, len(ahead))
			wantFault(t, ahead+"\n ", api.ErrDeep, len(ahead)+2)
		}
	}
	cut := strings.Repeat("(while (num 1) (", most)
	wantFault(t, cut, api.ErrShort, len(cut))
	wantFault(t, cut+"(", api.ErrShort, len(cut)+1)
	wantFault(t, cut+"(set ", api.ErrShort, len(cut)+5)
	wantFault(t, cut+"(set a", api.ErrNone, len(cut)+5)
	wantFault(t, cut+"(set 5", api.ErrForm, len(cut)+5)
	wantFault(t, strings.Repeat("(while (num 1) (", 370), api.ErrDeep, 16*most+7)
}

// TestDeepInOneAnother: expressions in statements, so many in all.
func TestDeepInOneAnother(t *testing.T) {
	const most = api.MaxDeep
	for outer := range most {
		open := "let a 1 " + strings.Repeat("(if (num 1) () (", outer) + "(put a (num 0) "
		gets := strings.Repeat("(get a ", most-outer-1)
		wantNoFault(t, open+gets+"(num 1)"+strings.Repeat(")", most-outer)+strings.Repeat("))", outer))
		wantNoFault(t, open+gets+"(var a)"+strings.Repeat(")", most-outer)+strings.Repeat("))", outer))
		for _, x := range whatever {
			wantFault(t, open+gets+"(get a "+x, api.ErrDeep, len(open+gets)+7)
			wantFault(t, open+gets+"(mul "+x, api.ErrDeep, len(open+gets)+5)
		}
		wantFault(t, open+gets+"(get a ", api.ErrDeep, len(open+gets)+7)
		wantFault(t, open+gets+"(get zz ", api.ErrNone, len(open+gets)+5)
		wantFault(t, open+gets, api.ErrShort, len(open+gets))
	}
}

func wantNoFault(t *testing.T, s string) {
	t.Helper()
	if _, f := parse.Parse(s); f != (api.Fault{}) {
		t.Errorf("%s: %v, want no fault", short(s), f)
	}
}
