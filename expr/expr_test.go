package expr_test

import (
	"math"
	"reflect"
	"slices"
	"strings"
	"testing"

	"notary/api"
	"notary/expr"
	"notary/lex"
	"notary/term"
)

func tokens(t *testing.T, text string) []api.Token {
	t.Helper()
	l, _, e := lex.Tokens(text)
	if e != api.OK {
		t.Fatalf("%q: %d", text, e)
	}
	return l
}

func name(s string) api.Term { return api.Term{K: api.KName, S: s} }
func num(n int64) api.Term   { return api.Term{K: api.KNum, N: n} }
func un(op int64, a api.Term) api.Term {
	return api.Term{K: api.KUn, N: op, L: []api.Term{a}}
}
func bin(op int64, a, b api.Term) api.Term {
	return api.Term{K: api.KBin, N: op, L: []api.Term{a, b}}
}

// is reads the whole text by one of the calls, and holds it against what is wanted.
func is(t *testing.T, read func([]api.Token, int) (api.Term, int, api.Errno), text string, want api.Term) {
	t.Helper()
	l := tokens(t, text)
	x, at, e := read(l, 0)
	if e != api.OK || at != len(l)-1 || !term.Same(x, want) {
		t.Errorf("%q: %v %d %d", text, x, at, e)
	}
	if y, at, e := read(l[:len(l)-1], 0); e != api.OK || at != len(l)-1 || !reflect.DeepEqual(x, y) {
		t.Errorf("%q without an end: %v", text, y)
	}
	shifted := append([]api.Token{{K: api.TokSign, S: "}"}, {K: 99}}, l...)
	if y, at, e := read(shifted, 2); e != api.OK || at != len(l)+1 || !reflect.DeepEqual(x, y) {
		t.Errorf("%q behind others: %v %d %d", text, y, at, e)
	}
}

func TestAtoms(t *testing.T) {
	for text, want := range map[string]api.Term{
		"7": num(7), "true": {K: api.KTruth, N: 1}, "false": {K: api.KTruth}, "read": {K: api.KRead}, "a": name("a"), "(a)": name("a"),
		"f()": {K: api.KCall, S: "f"}, "f(1, a)": {K: api.KCall, S: "f", L: []api.Term{num(1), name("a")}},
		"@f()": {K: api.KExt, S: "f"}, "@f(1,2,3)": {K: api.KExt, S: "f", L: []api.Term{num(1), num(2), num(3)}},
		"[1]": {K: api.KList, L: []api.Term{num(1)}}, "[1, [a]]": {K: api.KList, L: []api.Term{num(1), {K: api.KList, L: []api.Term{name("a")}}}},
		"new R(1, a)": {K: api.KMake, S: "R", L: []api.Term{num(1), name("a")}},
		"a[1]":        {K: api.KIndex, L: []api.Term{name("a"), num(1)}}, "a.b": {K: api.KField, S: "b", L: []api.Term{name("a")}},
		"-a": un(api.OpNeg, name("a")), "!a": un(api.OpNot, name("a")),
		"f(1)[2].c": {K: api.KField, S: "c", L: []api.Term{{K: api.KIndex, L: []api.Term{{K: api.KCall, S: "f", L: []api.Term{num(1)}}, num(2)}}}},
		"(a+b)[1]":  {K: api.KIndex, L: []api.Term{bin(api.OpAdd, name("a"), name("b")), num(1)}},
		"-x[1].y":   un(api.OpNeg, api.Term{K: api.KField, S: "y", L: []api.Term{{K: api.KIndex, L: []api.Term{name("x"), num(1)}}}}),
		"!a == b":   bin(api.OpEq, un(api.OpNot, name("a")), name("b")), "- - !a": un(api.OpNeg, un(api.OpNeg, un(api.OpNot, name("a")))),
	} {
		is(t, expr.Parse, text, want)
	}
}

// TestOperators: of each two operators the one that binds tighter is the inner one, and those of one line are read from the left.
func TestOperators(t *testing.T) {
	lines := operators()
	op := map[string]int64{"||": api.OpOr, "&&": api.OpAnd, "==": api.OpEq, "!=": api.OpNe, "<": api.OpLt, "<=": api.OpLe, ">": api.OpGt, ">=": api.OpGe, "+": api.OpAdd, "-": api.OpSub, "*": api.OpMul, "/": api.OpDiv, "%": api.OpRem}
	for i, l := range lines {
		for _, x := range l {
			is(t, expr.Parse, "a"+x+"b", bin(op[x], name("a"), name("b")))
			for j, m := range lines {
				for _, y := range m {
					text := "a " + x + " b " + y + " c"
					left := bin(op[y], bin(op[x], name("a"), name("b")), name("c"))
					right := bin(op[x], name("a"), bin(op[y], name("b"), name("c")))
					switch {
					case i == 2 && j == 2:
						k := tokens(t, text)
						if z, at, e := expr.Parse(k, 0); e != api.OK || at != 3 || !term.Same(z, bin(op[x], name("a"), name("b"))) {
							t.Errorf("%q: %v %d %d", text, z, at, e)
						}
					case i >= j:
						is(t, expr.Parse, text, left)
					default:
						is(t, expr.Parse, text, right)
					}
					is(t, expr.Parse, "(a"+x+"b)"+y+"c", left)
					is(t, expr.Parse, "a"+x+"(b"+y+"c)", right)
				}
			}
			is(t, expr.Parse, "-a"+x+"!b", bin(op[x], un(api.OpNeg, name("a")), un(api.OpNot, name("b"))))
		}
	}
	is(t, expr.Parse, "a-b-c-d", bin(api.OpSub, bin(api.OpSub, bin(api.OpSub, name("a"), name("b")), name("c")), name("d")))
	is(t, expr.Parse, "a < b && c < d || e", bin(api.OpOr, bin(api.OpAnd, bin(api.OpLt, name("a"), name("b")), bin(api.OpLt, name("c"), name("d"))), name("e")))
}

// grammar reads operators and names just as the chapter's lines are written, a line at a time.
type grammar struct {
	tokens []api.Token
	at     int
}

// operators are the signs of the grammar's lines, the loosest first.
func operators() [][]string {
	return [][]string{{"||"}, {"&&"}, {"==", "!=", "<", "<=", ">", ">="}, {"+", "-"}, {"*", "/", "%"}}
}

// number is the operator that a sign of two operands is.
func number(s string) int64 {
	n := int64(api.OpOr)
	for _, line := range operators() {
		for _, x := range line {
			if x == s {
				return n
			}
			n++
		}
	}
	return 0
}

func (g *grammar) line(i int) api.Term {
	if i == len(operators()) {
		x := g.tokens[g.at]
		g.at++
		return api.Term{K: api.KName, S: x.S, From: x.From, To: x.To}
	}
	out := g.line(i + 1)
	for slices.Contains(operators()[i], g.tokens[g.at].S) {
		op := number(g.tokens[g.at].S)
		g.at++
		right := g.line(i + 1)
		out = api.Term{K: api.KBin, N: op, L: []api.Term{out, right}, From: out.From, To: right.To}
		if i == 2 {
			break
		}
	}
	return out
}

// TestGrammar: whatever operators stand behind one another, an expression is what the grammar's lines say, and ends where they end.
func TestGrammar(t *testing.T) {
	some := []string{"||", "&&", "==", "<", ">=", "+", "-", "*", "%"}
	texts := []string{"a"}
	for n := 0; n < 4; n++ {
		var longer []string
		for _, text := range texts {
			for _, s := range some {
				longer = append(longer, text+s+"b")
			}
		}
		texts = longer
		for _, text := range texts {
			l := tokens(t, text)
			g := &grammar{tokens: l}
			want := g.line(0)
			if x, at, e := expr.Parse(l, 0); e != api.OK || at != g.at || !reflect.DeepEqual(x, want) {
				t.Fatalf("%q: %v %d %d, not %v %d", text, x, at, e, want, g.at)
			}
			inner := tokens(t, "f("+text+")")
			x, at, e := expr.Parse(inner, 0)
			if all := g.at == len(l)-1; all && (e != api.OK || at != len(inner)-1 || !term.Same(x.L[0], want)) || !all && (e != api.ErrToken || at != g.at+2) {
				t.Fatalf("%q in a call: %v %d %d", text, x, at, e)
			}
		}
	}
}

// TestOneComparison: an operand of || and of && has one comparison at most; where a second one comes the expression ends.
func TestOneComparison(t *testing.T) {
	for _, c := range []struct{ text, inside string }{
		{"a&&b<c<d", "a&&b<c|a|b<c|b|c"}, {"a||b==c!=d", "a||b==c|a|b==c|b|c"}, {"a||b&&c<d<e", "a||b&&c<d|a|b&&c<d|b|c<d|c|d"}, {"a<b&&c<d<e", "a<b&&c<d|a<b|a|b|c<d|c|d"}, {"a<b||c<d==e&&f", "a<b||c<d|a<b|a|b|c<d|c|d"},
		{"a&&b+1<c*2<d", "a&&b+1<c*2|a|b+1<c*2|b+1|b|1|c*2|c|2"}, {"a&&(b<c)<d<e", "a&&(b<c)<d|a|(b<c)<d|b<c|b|c|d"}, {"a&&b<(c<d)<e", "a&&b<(c<d)|a|b<(c<d)|b|c<d|c|d"}, {"!a&&b<c<", "!a&&b<c|!a|a|b<c|b|c"},
		{"(a&&b<c)<d<e", "(a&&b<c)<d|a&&b<c|a|b<c|b|c|d"}, {"a<b<c&&d", "a<b|a|b"}, {"a&&b<c&&d<e<f", "a&&b<c&&d<e|a&&b<c|a|b<c|b|c|d<e|d|e"},
	} {
		x, at, e := expr.Parse(tokens(t, c.text), 0)
		var l []string
		for _, p := range term.Paths(x) {
			part, _ := term.At(x, p)
			l = append(l, c.text[part.From:part.To])
		}
		if got := strings.Join(l, "|"); e != api.OK || got != c.inside || at != len(tokens(t, l[0]))-1 {
			t.Errorf("%q: %s %d %d", c.text, got, at, e)
		}
	}
	for _, c := range []struct {
		text string
		at   int
	}{{"f(a&&b<c<d)", 7}, {"(a||b==c!=d)", 6}, {"[a&&b<c,d||e<f<g]", 12}, {"a[b&&c<d<e]", 7}, {"new R(a&&b<c<d)", 8}, {"@f(a||b<c<d)", 8}, {"a&&b<c&&", 6}, {"a&&b<&&", 4}} {
		if x, at, e := expr.Parse(tokens(t, c.text), 0); at != c.at || e != api.ErrToken || !reflect.DeepEqual(x, api.Term{}) {
			t.Errorf("%q: %v %d %d", c.text, x, at, e)
		}
	}
}

func TestTypes(t *testing.T) {
	is(t, expr.Type, "int", api.Term{K: api.KInt})
	is(t, expr.Type, "bool", api.Term{K: api.KBool})
	is(t, expr.Type, "R", api.Term{K: api.KRec, S: "R"})
	is(t, expr.Type, "[3][0]R", api.Term{K: api.KArr, N: 3, L: []api.Term{{K: api.KArr, N: 0, L: []api.Term{{K: api.KRec, S: "R"}}}}})
	is(t, expr.Type, "[99]bool", api.Term{K: api.KArr, N: 99, L: []api.Term{{K: api.KBool}}})
	x, at, e := expr.Type(tokens(t, " [3] int ;"), 0)
	if x.From != 1 || x.To != 8 || x.L[0].From != 5 || x.L[0].To != 8 || at != 4 || e != api.OK {
		t.Error(x, at, e)
	}
}

// TestPlaces: each term stands where its tokens do; round brackets belong to what they are a part of.
func TestPlaces(t *testing.T) {
	for _, c := range []struct{ text, spans string }{
		{" a", "a"}, {"(a)", "a"}, {"( a+b ) * c", "( a+b ) * c|a+b|a|b|c"}, {"-(a)", "-(a)|a"}, {"((a)) [ 1 ]", "((a)) [ 1 ]|a|1"}, {"(a).b", "(a).b|a"},
		{"f( (a), b )", "f( (a), b )|a|b"}, {"@f( )", "@f( )"}, {"a*(b-(c))", "a*(b-(c))|a|b-(c)|b|c"}, {"[ (1) ]", "[ (1) ]|1"}, {"new R( (x)+1 )", "new R( (x)+1 )|(x)+1|x|1"},
		{"(a < b) ;", "a < b|a|b"}, {"(a)+(b) ;", "(a)+(b)|a|b"},
	} {
		x, _, e := expr.Parse(tokens(t, c.text), 0)
		var l []string
		for _, p := range term.Paths(x) {
			part, _ := term.At(x, p)
			l = append(l, c.text[part.From:part.To])
		}
		if got := strings.Join(l, "|"); e != api.OK || got != c.spans {
			t.Errorf("%q: %s", c.text, got)
		}
	}
}

func TestEnds(t *testing.T) {
	for _, c := range []struct {
		text string
		at   int
	}{{"a b", 1}, {"a )", 1}, {"a + b ] c", 3}, {"a == b == c", 3}, {"f(1) (2)", 4}, {"1 (2)", 1}, {"a = b", 1}, {"-a {", 2}, {"a ! b", 1}, {"a , b", 1}} {
		if _, at, e := expr.Parse(tokens(t, c.text), 0); at != c.at || e != api.OK {
			t.Errorf("%q: %d %d", c.text, at, e)
		}
	}
	if _, at, e := expr.Type(tokens(t, "int int"), 0); at != 1 || e != api.OK {
		t.Error("a type ends")
	}
}

func TestErrors(t *testing.T) {
	for _, c := range []struct {
		text string
		at   int
	}{
		{"", 0}, {"a + )", 2}, {"a +", 2}, {"(a", 2}, {"(a < b < c)", 4}, {"f(", 2}, {"f(,", 2}, {"f(1,)", 4}, {"f(1 2)", 3}, {"@", 1}, {"@f", 2}, {"@f 1", 2}, {"@ 1", 1}, {"@ new 3", 1},
		{"[]", 1}, {"[1", 2}, {"[1,]", 3}, {"new", 1}, {"new R", 2}, {"new R()", 3}, {"new 1 2", 1}, {"new R 1", 2}, {"a[", 2}, {"a[1", 3}, {"a.", 2}, {"a.1", 2}, {"a[1 2", 3}, {"-", 1}, {"!;", 1}, {"let", 0}, {"int", 0}, {"a && ", 2}, {"a.b[f(2, -)]", 9},
	} {
		l := tokens(t, c.text)
		if x, at, e := expr.Parse(l, 0); at != c.at || e != api.ErrToken || !reflect.DeepEqual(x, api.Term{}) {
			t.Errorf("%q: %v %d %d", c.text, x, at, e)
		}
		if _, at, e := expr.Parse(l[:len(l)-1], 0); at != c.at || e != api.ErrToken {
			t.Errorf("%q without an end: %d %d", c.text, at, e)
		}
	}
	for _, c := range []struct {
		text string
		at   int
	}{{"", 0}, {"[", 1}, {"[3", 2}, {"[3]", 3}, {"[a]int", 1}, {"[]int", 1}, {"1", 0}, {"true", 0}, {"(int)", 0}, {"[3]1", 3}, {"[ 3 int", 2}, {"[ x 3 ] int", 1}} {
		if x, at, e := expr.Type(tokens(t, c.text), 0); at != c.at || e != api.ErrToken || !reflect.DeepEqual(x, api.Term{}) {
			t.Errorf("type %q: %v %d %d", c.text, x, at, e)
		}
	}
	for _, at := range []int{-1, 3, math.MaxInt, math.MinInt} {
		if _, p, e := expr.Parse(tokens(t, "a"), at); p != 0 || e != api.ErrRange {
			t.Errorf("from %d: %d %d", at, p, e)
		}
		if _, p, e := expr.Type(tokens(t, "a"), at); p != 0 || e != api.ErrRange {
			t.Errorf("type from %d: %d %d", at, p, e)
		}
	}
	if _, at, e := expr.Parse(nil, 0); at != 0 || e != api.ErrToken {
		t.Error("no tokens", at, e)
	}
	if _, at, e := expr.Parse(tokens(t, "a"), 2); at != 2 || e != api.ErrToken {
		t.Error("behind the last token", at, e)
	}
}

func TestOtherKindsOfTokens(t *testing.T) {
	for _, l := range [][]api.Token{{{K: api.TokName, S: "+"}}, {{K: api.TokEnd, S: "true"}}, {{K: 0, S: "a"}}, {{K: -3}}, {{K: api.TokSign, S: "a"}}, {{K: api.TokWord, S: "a"}}} {
		_, _, e := expr.Parse(l, 0)
		if want := l[0].K != api.TokName; (e == api.ErrToken) != want {
			t.Errorf("%v: %d", l, e)
		}
	}
	deep := append(make([]api.Token, 0, 1<<15), api.Token{K: api.TokSign, S: "("})
	for len(deep) < 1<<14 {
		deep = append(deep, deep...)
	}
	if _, at, e := expr.Parse(deep, 0); at != len(deep) || e != api.ErrToken {
		t.Error("deep brackets", at, e)
	}
}

// wrongKinds are the kinds of tokens that are neither names nor numbers, but for the one that is right.
func wrongKinds(right int) []int {
	var out []int
	for _, k := range []int{0, api.TokWord, api.TokSign, api.TokEnd, 6, -1, math.MinInt, math.MaxInt} {
		if k != right {
			out = append(out, k)
		}
	}
	return out
}

// TestWordsAndSigns: a word or sign of the grammar that has another kind ends what stands ahead of it, as the tokens' end does.
func TestWordsAndSigns(t *testing.T) {
	seen := map[string]bool{}
	for _, text := range []string{"a || b && c", "a == b", "a != b", "a < b", "a <= b", "a > b", "a >= b", "a + b - c * d / e % f", "-a", "!a", "- ! - a", "a[1].b[c]", "true", "false", "read", "f()", "f(a, b, c)", "@f()", "@f(a, b)", "(a)", "((a + b)) * c", "[a, b]", "new R(a, b)", "f(read, [true], new R(!@g(false)[1].b))"} {
		otherKinds(t, expr.Parse, text, seen)
	}
	for _, text := range []string{"int", "bool", "[1]int", "[2][3]bool", "[4]R"} {
		otherKinds(t, expr.Type, text, seen)
	}
	for _, s := range []string{"||", "&&", "==", "!=", "<", "<=", ">", ">=", "+", "-", "*", "/", "%", "!", "[", "]", ".", "(", ")", ",", "@", "true", "false", "read", "new", "int", "bool"} {
		if !seen[s] {
			t.Errorf("no text has %q", s)
		}
	}
}

// otherKinds reads a text with each of its words and signs, one at a time, of another kind.
func otherKinds(t *testing.T, read func([]api.Token, int) (api.Term, int, api.Errno), text string, seen map[string]bool) {
	t.Helper()
	l := tokens(t, text)
	l = l[:len(l)-1]
	if _, at, e := read(l, 0); at != len(l) || e != api.OK {
		t.Errorf("%q: %d %d", text, at, e)
	}
	for i, right := range l {
		if right.K != api.TokWord && right.K != api.TokSign {
			continue
		}
		seen[right.S] = true
		want, to, wrong := read(l[:i], 0)
		for _, k := range wrongKinds(right.K) {
			l[i].K = k
			if x, at, e := read(l, 0); at != to || e != wrong || !reflect.DeepEqual(x, want) {
				t.Errorf("%q with a %q of the kind %d: %v %d %d", text, right.S, k, x, at, e)
			}
		}
		l[i].K = right.K
	}
}

// TestWrongKindsBegin: with a word or sign of another kind nothing begins, and nothing goes on.
func TestWrongKindsBegin(t *testing.T) {
	for s, right := range map[string]int{"||": api.TokSign, "&&": api.TokSign, "==": api.TokSign, "!=": api.TokSign, "<": api.TokSign, "<=": api.TokSign, ">": api.TokSign, ">=": api.TokSign, "+": api.TokSign, "-": api.TokSign, "*": api.TokSign, "/": api.TokSign, "%": api.TokSign, "[": api.TokSign, ".": api.TokSign, "(": api.TokSign, "!": api.TokSign, "@": api.TokSign, "true": api.TokWord, "false": api.TokWord, "read": api.TokWord, "new": api.TokWord, "int": api.TokWord, "bool": api.TokWord} {
		for _, k := range wrongKinds(right) {
			l := []api.Token{{K: api.TokName, S: "a", To: 1}, {K: k, S: s, From: 1, To: 2}, {K: api.TokName, S: "b", From: 2, To: 3}}
			if x, at, e := expr.Parse(l, 0); at != 1 || e != api.OK || !reflect.DeepEqual(x, api.Term{K: api.KName, S: "a", To: 1}) {
				t.Errorf("behind a name %q of the kind %d: %v %d %d", s, k, x, at, e)
			}
			if x, at, e := expr.Parse(l, 1); at != 1 || e != api.ErrToken || !reflect.DeepEqual(x, api.Term{}) {
				t.Errorf("%q of the kind %d: %v %d %d", s, k, x, at, e)
			}
			if x, at, e := expr.Type(l, 1); at != 1 || e != api.ErrToken || !reflect.DeepEqual(x, api.Term{}) {
				t.Errorf("type %q of the kind %d: %v %d %d", s, k, x, at, e)
			}
		}
	}
}
