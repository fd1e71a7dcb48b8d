package token_test

import (
	"math/big"
	"math/rand"
	"regexp"
	"slices"
	"strings"
	"testing"

	"overwinter/api"
	"overwinter/token"
)

var (
	piece    = regexp.MustCompile(`^(?:[ \t\n\r]|[()]|[a-z]+|[-0-9][0-9]*)`)
	numeral  = regexp.MustCompile(`^[-0-9]`)
	shortest = regexp.MustCompile(`^(?:0|-?[1-9][0-9]*)$`)
)

// model: what the document says, told in another way.
func model(s string) ([]token.Token, api.Fault) {
	if len(s) > api.MaxText {
		return nil, api.Fault{Code: api.ErrMany, At: api.MaxText}
	}
	var l []token.Token
	for at := 0; at < len(s); {
		text := piece.FindString(s[at:])
		if text == "" {
			return nil, api.Fault{Code: api.ErrText, At: at}
		}
		x := token.Token{At: at, Text: text, Num: numeral.MatchString(text)}
		if x.Num {
			n, ok := new(big.Int).SetString(text, 10)
			if !ok || !n.IsInt64() || !shortest.MatchString(text) {
				return nil, api.Fault{Code: api.ErrText, At: at}
			}
			x.N = n.Int64()
		}
		if !strings.Contains(blanks, text) {
			l = append(l, x)
		}
		at += len(text)
	}
	return l, api.Fault{}
}

func wantModel(t *testing.T, s string) {
	t.Helper()
	l, f := model(s)
	if f.Code != 0 {
		wantFault(t, s, f.Code, f.At)
		return
	}
	wantTokens(t, s, l...)
	wantAgain(t, l)
}

// wantAgain: the texts of tokens, with blanks between them, are the same tokens, but for their places.
func wantAgain(t *testing.T, l []token.Token) {
	t.Helper()
	for _, blank := range []string{" ", "\t", "\n", "\r", "\r\n\t "} {
		var texts []string
		var want []token.Token
		at := 0
		for _, x := range l {
			texts = append(texts, x.Text)
			x.At = at
			want = append(want, x)
			at += len(x.Text) + len(blank)
		}
		if s := strings.Join(texts, blank); len(s) <= api.MaxText {
			wantTokens(t, s, want...)
		}
	}
}

// TestAllShortTexts: of bytes of each kind and of those beside them.
func TestAllShortTexts(t *testing.T) {
	const kinds = "()az019- \n_\xc3"
	texts := []string{""}
	for range 4 {
		var longer []string
		for _, s := range texts {
			wantModel(t, s)
			for i := range len(kinds) {
				longer = append(longer, s+kinds[i:i+1])
			}
		}
		texts = longer
	}
	for _, s := range texts {
		wantModel(t, s)
	}
}

// TestAllPairsOfBytes: each byte beside each other one, behind a token.
func TestAllPairsOfBytes(t *testing.T) {
	for a := range 256 {
		for b := range 256 {
			wantModel(t, string([]byte{byte(a), byte(b)}))
			wantModel(t, string([]byte{'a', ' ', byte(a), byte(b)}))
		}
	}
}

// TestMixedTexts: tokens, and now and then what is none, with and without blanks between them.
func TestMixedTexts(t *testing.T) {
	r := rand.New(rand.NewSource(5))
	good := []string{"(", ")", "a", "z", "let", "while", "0", "7", "-1", "120", "9223372036854775807", "-9223372036854775808", letters}
	bad := []string{"-", "-0", "05", "A", "_", "9223372036854775808", "-9223372036854775809", "\xff", "\x0b", "ä"}
	for range 4000 {
		var b strings.Builder
		for range r.Intn(40) {
			if r.Intn(60) == 0 {
				b.WriteString(bad[r.Intn(len(bad))])
			}
			b.WriteString(good[r.Intn(len(good))])
			for range r.Intn(3) {
				b.WriteByte(blanks[r.Intn(len(blanks))])
			}
		}
		wantModel(t, b.String())
	}
}

// TestNumbersAtTheirEdges: those near powers of two and of ten, with and without a 0 ahead.
func TestNumbersAtTheirEdges(t *testing.T) {
	for _, base := range []int64{2, 10} {
		for exp := range int64(70) {
			power := new(big.Int).Exp(big.NewInt(base), big.NewInt(exp), nil)
			for by := int64(-2); by <= 2; by++ {
				n := new(big.Int).Add(power, big.NewInt(by))
				for _, x := range []*big.Int{n, new(big.Int).Neg(n)} {
					wantModel(t, x.String())
					wantModel(t, "0"+x.String())
					wantModel(t, "-"+x.String())
					wantModel(t, "-0"+x.String())
					wantModel(t, "(num "+x.String()+")")
				}
			}
		}
	}
}

// TestAskedAgain: the answer hangs on the text alone, whatever was asked between.
func TestAskedAgain(t *testing.T) {
	texts := []string{"", "(a 1)", "x -", "12 ab", strings.Repeat("(", api.MaxText), strings.Repeat("a", api.MaxText+1), "05", "-5)"}
	for _, s := range texts {
		a, f := token.Scan(s)
		for _, other := range texts {
			token.Scan(other)
			if b, g := token.Scan(s); f != g || !slices.Equal(a, b) {
				t.Errorf("%s behind %s: %v %v, want %v %v", short(s), short(other), b, g, a, f)
			}
		}
	}
}
