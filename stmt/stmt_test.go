package stmt_test

import (
	"math"
	"reflect"
	"strings"
	"testing"

	"notary/api"
	"notary/lex"
	"notary/stmt"
	"notary/term"
)

func tokens(t *testing.T, text string) []api.Token {
	t.Helper()
	l, _, e := lex.Tokens(text)
	if e != api.OK {
		t.Fatalf("%q: %d", text, e)
	}
	return l
}

func name(s string) api.Term { return api.Term{K: api.KName, S: s} }
func num(n int64) api.Term   { return api.Term{K: api.KNum, N: n} }
func bin(op int64, a, b api.Term) api.Term {
	return api.Term{K: api.KBin, N: op, L: []api.Term{a, b}}
}
func of(k int, l ...api.Term) api.Term {
	return api.Term{K: k, L: l}
}
func named(k int, s string, l ...api.Term) api.Term {
	return api.Term{K: k, S: s, L: l}
}

var statements = []struct {
	text string
	want api.Term
}{
	{"{ }", of(api.KBlock)},
	{"{ print 1; { } }", of(api.KBlock, of(api.KPrint, num(1)), of(api.KBlock))},
	{"let a = b;", named(api.KLet, "a", name("b"))},
	{"let a: int;", named(api.KNew, "a", of(api.KInt))},
	{"let a: [2]R;", named(api.KNew, "a", api.Term{K: api.KArr, N: 2, L: []api.Term{{K: api.KRec, S: "R"}}})},
	{"if a { print 1; }", of(api.KIf, name("a"), of(api.KBlock, of(api.KPrint, num(1))), of(api.KBlock))},
	{"if a { } else { print 2; }", of(api.KIf, name("a"), of(api.KBlock), of(api.KBlock, of(api.KPrint, num(2))))},
	{"while a { a = 1; }", of(api.KWhile, name("a"), of(api.KBlock, of(api.KSet, name("a"), num(1))))},
	{"for i = 1 to n { do f(); }", named(api.KFor, "i", num(1), name("n"), of(api.KBlock, of(api.KDo, named(api.KCall, "f"))))},
	{"print a;", of(api.KPrint, name("a"))},
	{"return a;", of(api.KReturn, name("a"))},
	{"do 1;", of(api.KDo, num(1))},
	{"a[1].b = 2;", of(api.KSet, named(api.KField, "b", of(api.KIndex, name("a"), num(1))), num(2))},
	{"1 = 2;", of(api.KSet, num(1), num(2))},
	{"print 1 && 2 < 3;", of(api.KPrint, bin(api.OpAnd, num(1), bin(api.OpLt, num(2), num(3))))},
	{"1 || 2 == 3 = 4;", of(api.KSet, bin(api.OpOr, num(1), bin(api.OpEq, num(2), num(3))), num(4))},
}

func TestParse(t *testing.T) {
	for _, c := range statements {
		l := tokens(t, c.text)
		x, at, e := stmt.Parse(l, 0)
		if e != api.OK || at != len(l)-1 || !term.Same(x, c.want) || x.From != 0 || x.To != len(c.text) {
			t.Errorf("%q: %v %d %d", c.text, x, at, e)
		}
		more := append([]api.Token{{K: api.TokSign, S: "]"}}, l[:len(l)-1]...)
		more = append(more, api.Token{K: api.TokSign, S: "]"})
		if y, at, e := stmt.Parse(more, 1); e != api.OK || at != len(l) || !reflect.DeepEqual(x, y) {
			t.Errorf("%q among others: %v %d %d", c.text, y, at, e)
		}
		_, _, e = stmt.Block(l, 0)
		if (e == api.OK) != (c.want.K == api.KBlock) {
			t.Errorf("%q as a block: %d", c.text, e)
		}
	}
}

// TestTogether: statements that stand one behind the other between braces are a block's.
func TestTogether(t *testing.T) {
	text := "{"
	var parts []api.Term
	for _, c := range statements {
		text += " " + c.text
		parts = append(parts, c.want)
	}
	text += "}"
	for _, read := range []func([]api.Token, int) (api.Term, int, api.Errno){stmt.Parse, stmt.Block} {
		x, at, e := read(tokens(t, text+" else"), 0)
		if e != api.OK || at != len(tokens(t, text))-1 || !term.Same(x, of(api.KBlock, parts...)) {
			t.Errorf("%v %d %d", x, at, e)
		}
		for i, c := range statements {
			if text[x.L[i].From:x.L[i].To] != c.text {
				t.Errorf("the part %d stands at %q", i, text[x.L[i].From:x.L[i].To])
			}
		}
	}
}

func TestIfWithoutElse(t *testing.T) {
	text := " if a { } "
	x, _, e := stmt.Parse(tokens(t, text), 0)
	if e != api.OK || len(x.L) != 3 || !reflect.DeepEqual(x.L[2], api.Term{K: api.KBlock, From: 9, To: 9}) || x.From != 1 || x.To != 9 || x.L[1].From != 6 {
		t.Error(x, e)
	}
	if x, at, e := stmt.Parse(tokens(t, text)[:4], 0); e != api.OK || at != 4 || x.L[2].To != 9 {
		t.Error("at the tokens' end", x, at, e)
	}
	x, at, e := stmt.Parse(tokens(t, "if a { if b { } else { } } else { }"), 0)
	if e != api.OK || at != 14 || x.L[2].From != 32 || x.L[1].L[0].L[2].From != 21 {
		t.Error(x, at, e)
	}
}

func TestErrors(t *testing.T) {
	for _, c := range []struct {
		text string
		at   int
	}{
		{"", 0}, {"a = ;", 2}, {"a", 1}, {"a;", 1}, {"a = 1", 3}, {"a < b < c = 1;", 3}, {"let", 1}, {"let 1", 1}, {"let a", 2}, {"let a;", 2}, {"let a = ;", 3}, {"let a = 1", 4}, {"let a: ;", 3}, {"let a: 1;", 3}, {"let a: int", 4}, {"let a: int = 1;", 4}, {"let int = 1;", 1},
		{"if", 1}, {"if a", 2}, {"if a print", 2}, {"if a { ", 3}, {"if a { } else", 5}, {"if a { } else if b { }", 5}, {"if { }", 1}, {"while { }", 1}, {"while a;", 2}, {"for", 1}, {"for 1", 1}, {"for i to", 2}, {"for i = ", 3}, {"for i = 1 { }", 4}, {"for i = 1 to { }", 5}, {"for i = 1 to 2;", 6},
		{"print;", 1}, {"print 1", 2}, {"return;", 1}, {"return 1 2", 2}, {"do;", 1}, {"do f() }", 4}, {"{", 1}, {"{ print 1; ", 4}, {"{ ; }", 1}, {"}", 0}, {"else", 0}, {"fn", 0}, {"{ let x = 1; x = ) }", 8}, {"print [ 1, ;", 4}, {"if f(,) { }", 3},
		{"d && e > e >", 5}, {"print a && b < c < d;", 6}, {"return a || b == c != d;", 6}, {"let a = b && c < d < e;", 8}, {"do a || b && c < d < e;", 8}, {"if a && b < c < d { }", 6}, {"while a || b < c == d { }", 6}, {"for i = a && b < c < d to 1 { }", 8}, {"for i = 1 to a && b < c < d { }", 10}, {"a && b < c < d = 1;", 5}, {"a = b && c < d < e;", 7}, {"{ print a && b < c < d; }", 7},
	} {
		l := tokens(t, c.text)
		if x, at, e := stmt.Parse(l, 0); at != c.at || e != api.ErrToken || !reflect.DeepEqual(x, api.Term{}) {
			t.Errorf("%q: %v %d %d", c.text, x, at, e)
		}
		if _, at, e := stmt.Parse(l[:len(l)-1], 0); at != c.at || e != api.ErrToken {
			t.Errorf("%q without an end: %d %d", c.text, at, e)
		}
	}
	for text, want := range map[string]int{"": 0, "print 1;": 0, "{": 1, "a = 1;": 0, "{ print }": 2} {
		if x, at, e := stmt.Block(tokens(t, text), 0); at != want || e != api.ErrToken || !reflect.DeepEqual(x, api.Term{}) {
			t.Errorf("block %q: %d %d", text, at, e)
		}
	}
	for _, at := range []int{-1, 3, math.MaxInt, math.MinInt} {
		if _, p, e := stmt.Parse(tokens(t, "a"), at); p != 0 || e != api.ErrRange {
			t.Errorf("from %d: %d %d", at, p, e)
		}
		if _, p, e := stmt.Block(tokens(t, "a"), at); p != 0 || e != api.ErrRange {
			t.Errorf("block from %d: %d %d", at, p, e)
		}
	}
	deep := tokens(t, strings.Repeat("{", 8000))
	if _, at, e := stmt.Parse(deep, 0); at != 8000 || e != api.ErrToken {
		t.Error("deep blocks", at, e)
	}
}

// TestWordsAndSigns: where a word or sign of the grammar has another kind, the statement errs there, as it does at the tokens' end.
func TestWordsAndSigns(t *testing.T) {
	seen := map[string]bool{}
	for _, c := range statements {
		l := tokens(t, c.text)
		l = l[:len(l)-1]
		for i, right := range l {
			if right.K != api.TokWord && right.K != api.TokSign {
				continue
			}
			seen[right.S] = true
			want, to, wrong := stmt.Parse(l[:i], 0)
			for _, k := range []int{0, api.TokWord, api.TokSign, api.TokEnd, 6, -1, math.MinInt, math.MaxInt} {
				if k == right.K {
					continue
				}
				l[i].K = k
				if x, at, e := stmt.Parse(l, 0); at != to || e != wrong || !reflect.DeepEqual(x, want) {
					t.Errorf("%q with a %q of the kind %d: %v %d %d", c.text, right.S, k, x, at, e)
				}
				if x, at, e := stmt.Block(l, 0); c.want.K == api.KBlock && (at != to || e != wrong || !reflect.DeepEqual(x, want)) {
					t.Errorf("block %q with a %q of the kind %d: %v %d %d", c.text, right.S, k, x, at, e)
				}
			}
			l[i].K = right.K
		}
	}
	for _, s := range []string{"{", "}", "let", "=", ";", ":", "if", "else", "while", "for", "to", "print", "return", "do"} {
		if !seen[s] {
			t.Errorf("no statement has %q", s)
		}
	}
}

// TestWrongKinds: tokens with a word's or a sign's S, but of another kind, and where they err.
func TestWrongKinds(t *testing.T) {
	for s, right := range map[string]int{"{": api.TokSign, "let": api.TokWord, "if": api.TokWord, "while": api.TokWord, "for": api.TokWord, "print": api.TokWord, "return": api.TokWord, "do": api.TokWord} {
		for _, k := range []int{0, api.TokWord, api.TokSign, api.TokEnd, 6, -1} {
			if k == right {
				continue
			}
			for _, rest := range []string{"", "f(1);", "}", "a = 1;", "a { }", "a = 1 to 2 { }"} {
				l := append([]api.Token{{K: k, S: s}}, tokens(t, rest)...)
				if x, at, e := stmt.Parse(l, 0); at != 0 || e != api.ErrToken || !reflect.DeepEqual(x, api.Term{}) {
					t.Errorf("%q of the kind %d: %v %d %d", s, k, x, at, e)
				}
				if x, at, e := stmt.Block(l, 0); at != 0 || e != api.ErrToken || !reflect.DeepEqual(x, api.Term{}) {
					t.Errorf("block %q of the kind %d: %v %d %d", s, k, x, at, e)
				}
			}
		}
	}
	l := tokens(t, "if a { } else { }")
	l[4].K = api.TokSign
	if x, at, e := stmt.Parse(l, 0); e != api.OK || at != 4 || x.L[2].From != 8 || len(x.L[2].L) != 0 {
		t.Error("an else that is none does not belong to the if", x, at, e)
	}
	l[4].K, l[5].K = api.TokWord, api.TokWord
	if x, at, e := stmt.Parse(l, 0); e != api.ErrToken || at != 5 || !reflect.DeepEqual(x, api.Term{}) {
		t.Error("a block must come behind an else", x, at, e)
	}
}
