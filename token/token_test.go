package token_test

import (
	"fmt"
	"slices"
	"strings"
	"testing"
	"unsafe"

	"overwinter/api"
	"overwinter/token"
)

const (
	letters = "abcdefghijklmnopqrstuvwxyz"
	digits  = "0123456789"
	blanks  = " \t\n\r"
)

func word(at int, text string) token.Token { return token.Token{At: at, Text: text} }

func number(at int, text string, n int64) token.Token {
	return token.Token{At: at, Text: text, Num: true, N: n}
}

func tokens(l ...token.Token) []token.Token { return l }

// short: a text as a test tells it.
func short(s string) string {
	if len(s) > 60 {
		return fmt.Sprintf("%q.. (%d bytes)", s[:60], len(s))
	}
	return fmt.Sprintf("%q", s)
}

func wantTokens(t *testing.T, s string, want ...token.Token) {
	t.Helper()
	got, f := token.Scan(s)
	if f != (api.Fault{}) || !slices.Equal(got, want) {
		t.Errorf("%s: %v %v, want %v and no fault", short(s), got, f, want)
	}
}

// wantFault: and no tokens beside it.
func wantFault(t *testing.T, s string, code, at int) {
	t.Helper()
	got, f := token.Scan(s)
	if f != (api.Fault{Code: code, At: at}) || len(got) != 0 {
		t.Errorf("%s: %v %v, want no tokens and %v", short(s), got, f, api.Fault{Code: code, At: at})
	}
}

// noneBegins: no token begins at this byte of the text.
func noneBegins(t *testing.T, s string, at int) {
	t.Helper()
	wantFault(t, s, api.ErrText, at)
}

func TestNoTokens(t *testing.T) {
	for _, s := range []string{"", " ", "\t", "\n", "\r", blanks, "   ", "\r\n\r\n", strings.Repeat(blanks, 100)} {
		wantTokens(t, s)
	}
}

func TestOneToken(t *testing.T) {
	for s, want := range map[string]token.Token{
		"(":                    word(0, "("),
		")":                    word(0, ")"),
		"a":                    word(0, "a"),
		"z":                    word(0, "z"),
		"while":                word(0, "while"),
		"aa":                   word(0, "aa"),
		letters:                word(0, letters),
		"0":                    number(0, "0", 0),
		"7":                    number(0, "7", 7),
		"10":                   number(0, "10", 10),
		"100":                  number(0, "100", 100),
		"1234567890":           number(0, "1234567890", 1234567890),
		"-1":                   number(0, "-1", -1),
		"-10":                  number(0, "-10", -10),
		"-987":                 number(0, "-987", -987),
		"2147483648":           number(0, "2147483648", 1<<31),
		"4294967296":           number(0, "4294967296", 1<<32),
		"-4294967297":          number(0, "-4294967297", -1<<32-1),
		"9007199254740993":     number(0, "9007199254740993", 1<<53+1),
		"9223372036854775806":  number(0, "9223372036854775806", 1<<63-2),
		"9223372036854775807":  number(0, "9223372036854775807", 1<<63-1),
		"-9223372036854775807": number(0, "-9223372036854775807", -1<<63+1),
		"-9223372036854775808": number(0, "-9223372036854775808", -1<<63),
	} {
		wantTokens(t, s, want)
		for _, blank := range []string{" ", "\t", "\n", "\r", "  ", "\r\n", blanks + blanks} {
			wantTokens(t, s+blank, want)
			moved := want
			moved.At = len(blank)
			wantTokens(t, blank+s, moved)
			wantTokens(t, blank+s+blank, moved)
		}
	}
}

func TestEachLetterAndDigit(t *testing.T) {
	for i := range len(letters) {
		c := letters[i : i+1]
		wantTokens(t, c, word(0, c))
		wantTokens(t, "b"+c+"y", word(0, "b"+c+"y"))
	}
	for i := range len(digits) {
		c, n := digits[i:i+1], int64(i)
		wantTokens(t, c, number(0, c, n))
		wantTokens(t, "1"+c+"2", number(0, "1"+c+"2", 102+10*n))
		if i > 0 {
			wantTokens(t, "-"+c, number(0, "-"+c, -n))
		}
	}
}

// TestBlanksBetween: they part what would be one token, and are none themselves.
func TestBlanksBetween(t *testing.T) {
	for _, blank := range []string{" ", "\t", "\n", "\r", "  ", "\r\n", blanks} {
		n := len(blank)
		wantTokens(t, "a"+blank+"b", word(0, "a"), word(1+n, "b"))
		wantTokens(t, "1"+blank+"0", number(0, "1", 1), number(1+n, "0", 0))
		wantTokens(t, "-1"+blank+"-2", number(0, "-1", -1), number(2+n, "-2", -2))
		wantTokens(t, "ab"+blank+"("+blank+"12", word(0, "ab"), word(2+n, "("), number(3+2*n, "12", 12))
		noneBegins(t, "a"+blank+"-"+blank+"1", 1+n)
	}
}

// TestSideBySide: tokens with nothing between them.
func TestSideBySide(t *testing.T) {
	for s, want := range map[string][]token.Token{
		"()":      tokens(word(0, "("), word(1, ")")),
		")(":      tokens(word(0, ")"), word(1, "(")),
		"((":      tokens(word(0, "("), word(1, "(")),
		"))":      tokens(word(0, ")"), word(1, ")")),
		"(a)":     tokens(word(0, "("), word(1, "a"), word(2, ")")),
		"a(b":     tokens(word(0, "a"), word(1, "("), word(2, "b")),
		"(12)":    tokens(word(0, "("), number(1, "12", 12), word(3, ")")),
		"1(2":     tokens(number(0, "1", 1), word(1, "("), number(2, "2", 2)),
		")-3(":    tokens(word(0, ")"), number(1, "-3", -3), word(3, "(")),
		"5a":      tokens(number(0, "5", 5), word(1, "a")),
		"a5":      tokens(word(0, "a"), number(1, "5", 5)),
		"a-5":     tokens(word(0, "a"), number(1, "-5", -5)),
		"-5a":     tokens(number(0, "-5", -5), word(2, "a")),
		"5-6":     tokens(number(0, "5", 5), number(1, "-6", -6)),
		"-5-6":    tokens(number(0, "-5", -5), number(2, "-6", -6)),
		"0a":      tokens(number(0, "0", 0), word(1, "a")),
		"0x10":    tokens(number(0, "0", 0), word(1, "x"), number(2, "10", 10)),
		"1e5":     tokens(number(0, "1", 1), word(1, "e"), number(2, "5", 5)),
		"0-1":     tokens(number(0, "0", 0), number(1, "-1", -1)),
		"a0b":     tokens(word(0, "a"), number(1, "0", 0), word(2, "b")),
		"ab12cd":  tokens(word(0, "ab"), number(2, "12", 12), word(4, "cd")),
		"let x-3": tokens(word(0, "let"), word(4, "x"), number(5, "-3", -3)),
	} {
		wantTokens(t, s, want...)
	}
}

func TestSeveralTokens(t *testing.T) {
	wantTokens(t, "let ab 3\r\n\t(set ab (add (num -5)(get ab(num 10))) )\n",
		word(0, "let"), word(4, "ab"), number(7, "3", 3),
		word(11, "("), word(12, "set"), word(16, "ab"), word(19, "("), word(20, "add"),
		word(24, "("), word(25, "num"), number(29, "-5", -5), word(31, ")"),
		word(32, "("), word(33, "get"), word(37, "ab"), word(39, "("), word(40, "num"), number(44, "10", 10), word(46, ")"), word(47, ")"), word(48, ")"), word(50, ")"))
}

// TestNoNumbers: what is not of 64 bits or not as short as can be, and what ends behind its -.
func TestNoNumbers(t *testing.T) {
	for _, s := range []string{
		"00", "01", "05", "000", "007", "0123", "-0", "-00", "-01", "-05", "-007", "-",
		"9223372036854775808", "9223372036854775809", "9223372036854775810", "9223372036854775817", "10000000000000000000",
		"-9223372036854775809", "-9223372036854775810", "-9223372036854775818", "-10000000000000000000",
		"18446744073709551615", "18446744073709551616", "18446744073709551617", "-18446744073709551616", "-18446744073709551617",
		"09223372036854775807", "-09223372036854775808", "340282366920938463463374607431768211457",
		strings.Repeat("1", 1000), "-" + strings.Repeat("9", 1000), strings.Repeat("0", 1000) + "1", "-" + strings.Repeat("0", 1000), "1" + strings.Repeat("0", 64),
	} {
		noneBegins(t, s, 0)
		for _, behind := range []string{" ", "(", ")", "a", "-", "-1", " 1", "_"} {
			noneBegins(t, s+behind, 0)
		}
		for _, ahead := range []string{" ", "\r\n", "(", ")", "a", "abc", "1 ", "-1 ", "(num "} {
			noneBegins(t, ahead+s, len(ahead))
		}
	}
	for _, behind := range []string{"a", "(", ")", " ", "\t", "-", "--", "-5", "+5", " 5", "_", "\x00"} {
		noneBegins(t, "-"+behind, 0)
		noneBegins(t, "a-"+behind, 1)
	}
	noneBegins(t, "5-", 1)
	noneBegins(t, "5-0", 1)
	noneBegins(t, "5-06", 1)
	noneBegins(t, "-5-", 2)
	noneBegins(t, "+5", 0)
	noneBegins(t, "1_0", 1)
	noneBegins(t, "1.5", 1)
}

// TestEachByte: alone, at the beginning, between tokens and at the end.
func TestEachByte(t *testing.T) {
	for c := range 256 {
		s := string([]byte{byte(c)})
		switch {
		case strings.Contains(blanks, s):
			wantTokens(t, s)
			wantTokens(t, "a"+s+"b", word(0, "a"), word(2, "b"))
			wantTokens(t, s+"b", word(1, "b"))
			wantTokens(t, "("+s, word(0, "("))
		case strings.Contains("()", s):
			wantTokens(t, "a"+s+"b", word(0, "a"), word(1, s), word(2, "b"))
		case strings.Contains(letters, s):
			wantTokens(t, "a"+s+"b", word(0, "a"+s+"b"))
		case strings.Contains(digits, s):
			wantTokens(t, "a"+s+"b", word(0, "a"), number(1, s, int64(c-'0')), word(2, "b"))
		default:
			noneBegins(t, s, 0)
			noneBegins(t, s+s, 0)
			noneBegins(t, s+"a", 0)
			noneBegins(t, s+" (", 0)
			noneBegins(t, "a"+s+"b", 1)
			noneBegins(t, "ab "+s+" c", 3)
			noneBegins(t, "1"+s, 1)
			noneBegins(t, "12"+s+")", 2)
			noneBegins(t, "() "+s, 3)
			noneBegins(t, " "+s, 1)
			noneBegins(t, s+" ", 0)
		}
	}
}

// TestBytesBesideTheKinds: by their numbers, as the document tells the blanks.
func TestBytesBesideTheKinds(t *testing.T) {
	for _, c := range []byte{32, 9, 10, 13} {
		wantTokens(t, string([]byte{'a', c, 'a'}), word(0, "a"), word(2, "a"))
	}
	for _, c := range []byte{0, 8, 11, 12, 14, 31, 33, '\'', '*', '/', ':', '@', 'A', 'Z', '[', '`', '{', '_', 127, 128, 133, 160, 255} {
		noneBegins(t, string([]byte{c}), 0)
		noneBegins(t, string([]byte{'a', c, 'a'}), 1)
	}
}

// TestOtherScripts: letters, digits and blanks that are more than one byte are none.
func TestOtherScripts(t *testing.T) {
	for _, s := range []string{"ä", "é", "а", "語", "\u00a0", "\u2003", "\u0085", "٣", "３", "ａ", "（", "−5", "\ufeff", "🙂", "\xff\xfe", "\xe2\x80", "\xc3", "\xc0\xa0", "\xe1"} {
		noneBegins(t, s, 0)
		noneBegins(t, "a"+s, 1)
		noneBegins(t, "a "+s+" b", 2)
		noneBegins(t, "(1"+s+")", 2)
	}
	noneBegins(t, "maß", 2)
	noneBegins(t, "Abc", 0)
	noneBegins(t, "abC", 2)
}

func TestTheFirstFaultIsTold(t *testing.T) {
	noneBegins(t, "(num 5) _ - 05", 8)
	noneBegins(t, "(num 5) - _ 05", 8)
	noneBegins(t, "(num 5) 05 - _", 8)
	noneBegins(t, "A B", 0)
	noneBegins(t, "a 9223372036854775808 B", 2)
	noneBegins(t, "a B 9223372036854775808", 2)
	noneBegins(t, strings.Repeat("(a 1)", 1000)+"!", 5000)
	noneBegins(t, strings.Repeat(" ", 1000)+"!"+strings.Repeat("a", 1000)+"?", 1000)
}

func TestLongTexts(t *testing.T) {
	const most = api.MaxText
	for n := most - 1; n <= most; n++ {
		wantTokens(t, strings.Repeat("a", n), word(0, strings.Repeat("a", n)))
		wantTokens(t, strings.Repeat(" ", n))
		wantTokens(t, strings.Repeat(" ", n-1)+"7", number(n-1, "7", 7))
		noneBegins(t, strings.Repeat("1", n), 0)
		noneBegins(t, strings.Repeat("0", n), 0)
		noneBegins(t, "-"+strings.Repeat("1", n-1), 0)
		noneBegins(t, strings.Repeat("a", n-1)+"_", n-1)
		noneBegins(t, strings.Repeat("-", n), 0)
		var l []token.Token
		for at := range n {
			l = append(l, word(at, "("))
		}
		wantTokens(t, strings.Repeat("(", n), l...)
	}
	for _, n := range []int{most + 1, most + 2, 2 * most, 1 << 16, 1<<16 + 5, 1 << 20} {
		for _, s := range []string{"a", " ", "(", "0", "1", "-", "_", "\xff", "\x00"} {
			wantFault(t, strings.Repeat(s, n), api.ErrMany, most)
			wantFault(t, s+strings.Repeat(" ", n-1), api.ErrMany, most)
			wantFault(t, strings.Repeat(" ", n-1)+s, api.ErrMany, most)
			wantFault(t, "_"+strings.Repeat(s, n-1), api.ErrMany, most)
		}
	}
	wantFault(t, strings.Repeat("é", most/2+1), api.ErrMany, most) // bytes are counted, not letters
	noneBegins(t, strings.Repeat("é", most/2), 0)
}

// TestNewMemory: no token keeps the text that it was found in, and no answer shares its list with another one.
func TestNewMemory(t *testing.T) {
	s := strings.Clone("(abc 12 -345678)x()")
	from := uintptr(unsafe.Pointer(unsafe.StringData(s)))
	a, _ := token.Scan(s)
	for _, x := range a {
		if at := uintptr(unsafe.Pointer(unsafe.StringData(x.Text))); at >= from && at < from+uintptr(len(s)) {
			t.Errorf("%v: a piece of the text", x)
		}
	}
	want := slices.Clone(a)
	for i := range a {
		a[i] = token.Token{At: -1}
	}
	if b, f := token.Scan(s); f != (api.Fault{}) || !slices.Equal(b, want) {
		t.Errorf("asked again: %v %v, want %v", b, f, want)
	}
}
