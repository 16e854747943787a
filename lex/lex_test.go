package lex_test

import (
	"math"
	"slices"
	"strings"
	"testing"

	"notary/api"
	"notary/lex"
)

const words = "rec const var pub fn int bool let if else while for to print return do true false read new"
const signs = "{ } ( ) [ ] , ; : . = == != < <= > >= + - * / % ! && || @"

func TestTokens(t *testing.T) {
	for _, c := range []struct {
		text string
		want []api.Token
	}{
		{"", []api.Token{{K: api.TokEnd}}},
		{" \t\r\n", []api.Token{{K: api.TokEnd, From: 4, To: 4}}},
		{"a<=1//b", []api.Token{{K: api.TokName, S: "a", From: 0, To: 1}, {K: api.TokSign, S: "<=", From: 1, To: 3}, {K: api.TokNum, N: 1, From: 3, To: 4}, {K: api.TokEnd, From: 7, To: 7}}},
		{"12a", []api.Token{{K: api.TokNum, N: 12, From: 0, To: 2}, {K: api.TokName, S: "a", From: 2, To: 3}, {K: api.TokEnd, From: 3, To: 3}}},
		{"_1 if iff", []api.Token{{K: api.TokName, S: "_1", From: 0, To: 2}, {K: api.TokWord, S: "if", From: 3, To: 5}, {K: api.TokName, S: "iff", From: 6, To: 9}, {K: api.TokEnd, From: 9, To: 9}}},
		{"// \x00\xff&\n0 /", []api.Token{{K: api.TokNum, From: 7, To: 8}, {K: api.TokSign, S: "/", From: 9, To: 10}, {K: api.TokEnd, From: 10, To: 10}}},
		{"===!=!<>=", []api.Token{{K: api.TokSign, S: "==", From: 0, To: 2}, {K: api.TokSign, S: "=", From: 2, To: 3}, {K: api.TokSign, S: "!=", From: 3, To: 5}, {K: api.TokSign, S: "!", From: 5, To: 6}, {K: api.TokSign, S: "<", From: 6, To: 7}, {K: api.TokSign, S: ">=", From: 7, To: 9}, {K: api.TokEnd, From: 9, To: 9}}},
		{"9223372036854775807", []api.Token{{K: api.TokNum, N: math.MaxInt64, From: 0, To: 19}, {K: api.TokEnd, From: 19, To: 19}}},
		{"abcdefghijklmnop", []api.Token{{K: api.TokName, S: "abcdefghijklmnop", From: 0, To: 16}, {K: api.TokEnd, From: 16, To: 16}}},
	} {
		if l, at, e := lex.Tokens(c.text); !slices.Equal(l, c.want) || at != 0 || e != api.OK {
			t.Errorf("%q: %v %d %d", c.text, l, at, e)
		}
	}
}

func TestErrors(t *testing.T) {
	for _, c := range []struct {
		text string
		at   int
		e    api.Errno
	}{
		{strings.Repeat(" ", api.MaxSource+1), 0, api.ErrLong},
		{" &" + strings.Repeat(" ", api.MaxSource), 0, api.ErrLong},
		{"a bcdefghijklmnopqr", 2, api.ErrLong}, {" returnreturnretur", 1, api.ErrLong}, {"_0123456789012345", 0, api.ErrLong},
		{"007", 0, api.ErrNumber}, {"a 00", 2, api.ErrNumber}, {"01", 0, api.ErrNumber}, {"9223372036854775808", 0, api.ErrNumber}, {"99999999999999999999999", 0, api.ErrNumber}, {"1 00a", 2, api.ErrNumber},
		{"a&b", 1, api.ErrChar}, {"|", 0, api.ErrChar}, {"a || b |", 7, api.ErrChar}, {"&&&", 2, api.ErrChar}, {"a\x00", 1, api.ErrChar}, {"#", 0, api.ErrChar}, {"\"", 0, api.ErrChar}, {"é", 0, api.ErrChar}, {"a\v", 1, api.ErrChar}, {"//x\n ~", 5, api.ErrChar},
		{"? 00", 0, api.ErrChar}, {"00 ?", 0, api.ErrNumber},
	} {
		if l, at, e := lex.Tokens(c.text); len(l) != 0 || at != c.at || e != c.e {
			t.Errorf("%.40q: %v %d %d", c.text, l, at, e)
		}
	}
	if _, _, e := lex.Tokens(strings.Repeat(" ", api.MaxSource)); e != api.OK {
		t.Error("a text that is just as long as may be")
	}
}

func TestEachByte(t *testing.T) {
	for c := range 256 {
		s := string([]byte{byte(c)})
		l, _, e := lex.Tokens(s)
		want := 0
		switch {
		case strings.Contains(" \t\r\n", s):
			want = 1
		case strings.Contains(" "+signs+" ", " "+s+" "), 'a' <= c && c <= 'z', 'A' <= c && c <= 'Z', '0' <= c && c <= '9', c == '_':
			want = 2
		}
		if len(l) != want || (e == api.ErrChar) != (want == 0) {
			t.Errorf("byte %d: %v %d", c, l, e)
		}
	}
}

func TestIsName(t *testing.T) {
	for _, s := range []string{"a", "Z", "_", "a1_", "iff", "If", "abcdefghijklmnop", "main", "rec_", "_0"} {
		if !lex.IsName(s) {
			t.Errorf("%q is a name", s)
		}
	}
	for _, s := range append([]string{"", "1", "1a", " a", "a ", "a b", "a-b", "é", "aé", "abcdefghijklmnopq", "a\x00", "@a", "@", "["}, strings.Fields(words)...) {
		if lex.IsName(s) {
			t.Errorf("%q is no name", s)
		}
	}
}

func TestSpell(t *testing.T) {
	for _, c := range []struct {
		t    api.Token
		want string
	}{
		{api.Token{K: api.TokName, S: "a", N: 3}, "a"}, {api.Token{K: api.TokWord, S: "if"}, "if"}, {api.Token{K: api.TokSign, S: "<="}, "<="},
		{api.Token{K: api.TokNum, N: 12, S: "x"}, "12"}, {api.Token{K: api.TokNum, N: -5}, "-5"},
		{api.Token{K: api.TokEnd, S: "x", N: 2}, ""}, {api.Token{S: "x"}, ""}, {api.Token{K: 6, S: "x"}, ""}, {api.Token{K: -1, S: "x"}, ""},
	} {
		if s := lex.Spell(c.t); s != c.want {
			t.Errorf("%v: %q", c.t, s)
		}
	}
}

func TestDigits(t *testing.T) {
	for n, s := range map[int64]string{0: "0", 7: "7", 10: "10", -1: "-1", -120: "-120", math.MaxInt64: "9223372036854775807", math.MinInt64: "-9223372036854775808"} {
		if lex.Digits(n) != s {
			t.Errorf("%d: %q", n, lex.Digits(n))
		}
	}
}

// TestThereAndBack: spellings with blanks between are read again, and a token's bytes are its spelling.
func TestThereAndBack(t *testing.T) {
	text := words + " " + signs + " a _b9 0 9223372036854775807 // a comment\nx.y[1]<=2!=!3"
	first, _, e := lex.Tokens(text)
	if e != api.OK || len(first) != 20+26+4+11+1 {
		t.Fatal(len(first), e)
	}
	var l []string
	for _, x := range first {
		if lex.Spell(x) != text[x.From:x.To] {
			t.Errorf("%v stands as %q", x, text[x.From:x.To])
		}
		l = append(l, lex.Spell(x))
	}
	second, _, _ := lex.Tokens(strings.Join(l, " "))
	if len(second) != len(first) {
		t.Fatal("another number of tokens")
	}
	for i, x := range second {
		if x.K != first[i].K || x.S != first[i].S || x.N != first[i].N {
			t.Errorf("%v became %v", first[i], x)
		}
	}
	for i, w := range strings.Fields(words + " " + signs) {
		if want := map[bool]int{true: api.TokWord, false: api.TokSign}[i < 20]; first[i].K != want || first[i].S != w {
			t.Errorf("%q is read as %v", w, first[i])
		}
	}
}
