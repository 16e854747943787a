package print_test

import (
	"strings"
	"testing"

	"notary/api"
	"notary/expr"
	"notary/lex"
	"notary/print"
	"notary/term"
	"notary/unit"
)

func read(t *testing.T, text string, by func([]api.Token, int) (api.Term, int, api.Errno)) api.Term {
	t.Helper()
	l, _, e := lex.Tokens(text)
	if e != api.OK {
		t.Fatalf("%q: %d", text, e)
	}
	x, at, e := by(l, 0)
	if e != api.OK || at != len(l)-1 {
		t.Fatalf("%q: %d %d", text, at, e)
	}
	return x
}

func TestExpr(t *testing.T) {
	for text, want := range map[string]string{
		"(a+b)*c": "( a + b ) * c", "a-(b-c)": "a - ( b - c )", "(a-b)-c": "a - b - c", "(a<b)==c": "( a < b ) == c", "a<(b==c)": "a < ( b == c )", "-(-a)": "- - a", "-(a+b)": "- ( a + b )", "(-a)+b": "- a + b", "a*(-b)": "a * - b",
		"!(a&&b)": "! ( a && b )", "((a))": "a", "(a||b)&&c": "( a || b ) && c", "a||(b&&c)": "a || b && c", "a||(b||c)": "a || ( b || c )", "(a&&b)&&c": "a && b && c", "(a+b)<(c*d)": "a + b < c * d", "a*(b/c)": "a * ( b / c )", "(a%b)/c": "a % b / c",
		"(a+b)[1]": "( a + b ) [ 1 ]", "(-a).b": "( - a ) . b", "-a.b": "- a . b", "(a[1])[2]": "a [ 1 ] [ 2 ]", "f()": "f ( )", "f((a),b)": "f ( a , b )", "@f(1)": "@ f ( 1 )", "[(1),2]": "[ 1 , 2 ]", "new R((a+b))": "new R ( a + b )",
		"true": "true", "false": "false", "read": "read", "9223372036854775807": "9223372036854775807", "a[(b+c)]": "a [ b + c ]", "(read)[0].x": "read [ 0 ] . x", "([1])[0]": "[ 1 ] [ 0 ]",
		"a==b": "a == b", "a!=b": "a != b", "a<=b": "a <= b", "a>b": "a > b", "a>=b": "a >= b", "!a": "! a", "(a==b)!=(c)": "( a == b ) != c",
	} {
		x := read(t, text, expr.Parse)
		if s := print.Expr(x); s != want {
			t.Errorf("%q: %q", text, s)
		}
	}
}

// TestAllPairs: whatever operator stands in another one, what is printed is read as a like term, without needless brackets.
func TestAllPairs(t *testing.T) {
	a, b, c := api.Term{K: api.KName, S: "a"}, api.Term{K: api.KNum, N: 2}, api.Term{K: api.KCall, S: "f"}
	var inner []api.Term
	for op := int64(api.OpOr); op <= api.OpRem; op++ {
		inner = append(inner, api.Term{K: api.KBin, N: op, L: []api.Term{a, b}})
	}
	inner = append(inner, a, b, c, api.Term{K: api.KUn, N: api.OpNeg, L: []api.Term{a}}, api.Term{K: api.KUn, N: api.OpNot, L: []api.Term{a}}, api.Term{K: api.KIndex, L: []api.Term{a, b}}, api.Term{K: api.KField, S: "x", L: []api.Term{a}}, api.Term{K: api.KList, L: []api.Term{a}}, api.Term{K: api.KMake, S: "R", L: []api.Term{a, b}}, api.Term{K: api.KExt, S: "g", L: []api.Term{a}}, api.Term{K: api.KRead})
	var outer []api.Term
	for _, x := range inner {
		for op := int64(api.OpOr); op <= api.OpRem; op++ {
			outer = append(outer, api.Term{K: api.KBin, N: op, L: []api.Term{x, c}}, api.Term{K: api.KBin, N: op, L: []api.Term{c, x}})
		}
		outer = append(outer, api.Term{K: api.KUn, N: api.OpNeg, L: []api.Term{x}}, api.Term{K: api.KUn, N: api.OpNot, L: []api.Term{x}}, api.Term{K: api.KIndex, L: []api.Term{x, x}}, api.Term{K: api.KField, S: "x", L: []api.Term{x}}, api.Term{K: api.KList, L: []api.Term{x, x}})
	}
	for _, x := range outer {
		s := print.Expr(x)
		y := read(t, s, expr.Parse)
		if !term.Same(x, y) || print.Expr(y) != s {
			t.Fatalf("%v: %q", x, s)
		}
		without := strings.Replace(s, "( ", "", 1)
		if i := strings.Index(s, "( "); i < 0 || i > 0 && s[i-2] != ' ' && i-2 >= 0 && (s[i-2] == 'f' || s[i-2] == 'g' || s[i-2] == 'R') {
			continue
		}
		if l, _, e := lex.Tokens(strings.Replace(without, " )", "", 1)); e == api.OK {
			if z, at, e := expr.Parse(l, 0); e == api.OK && at == len(l)-1 && term.Same(x, z) {
				t.Errorf("%q has needless brackets", s)
			}
		}
	}
}

func TestType(t *testing.T) {
	for text, want := range map[string]string{"int": "int", "bool": "bool", "R": "R", "[3]bool": "[ 3 ] bool", "[2][16]R": "[ 2 ] [ 16 ] R"} {
		if s := print.Type(read(t, text, expr.Type)); s != want {
			t.Errorf("%q: %q", text, s)
		}
	}
}

func TestText(t *testing.T) {
	for _, c := range []struct{ text, want string }{
		{"", ""},
		{"fn f(a:int):int{}", "fn f ( a : int ) : int { }\n"},
		{"pub fn f():bool{return true;}var v:[2]int;", "pub fn f ( ) : bool { return true ; }\nvar v : [ 2 ] int ;\n"},
		{"rec R{a:int;b:R;}const c=1;const d=true;const e=false;", "rec R { a : int ; b : R ; }\nconst c = 1 ;\nconst d = true ;\nconst e = false ;\n"},
		{"fn f(a:int,b:int):int{let x=a;let y:int;x=1;{}print x;do f(1,2);return 1;}", "fn f ( a : int , b : int ) : int { let x = a ; let y : int ; x = 1 ; { } print x ; do f ( 1 , 2 ) ; return 1 ; }\n"},
		{"fn f():int{if a{}if a{print 1;}else{}if a{}else{print 1;}while a{print 1;}for i=1 to 2{print i;}x.y[1]=2;}", "fn f ( ) : int { if a { } if a { print 1 ; } if a { } else { print 1 ; } while a { print 1 ; } for i = 1 to 2 { print i ; } x . y [ 1 ] = 2 ; }\n"},
	} {
		m, _, e := unit.Parse(c.text)
		if e != api.OK {
			t.Fatal(c.text, e)
		}
		s := print.Text(m)
		n, _, e := unit.Parse(s)
		if s != c.want || e != api.OK || !term.Same(m, n) || print.Text(n) != s {
			t.Errorf("%q: %q %d", c.text, s, e)
		}
	}
}

func TestWhateverTermEnds(t *testing.T) {
	for k := -1; k <= api.KModule+2; k++ {
		for _, l := range [][]api.Term{nil, {{}}, {{K: api.KParams}}, {{K: k}, {K: k}}} {
			x := api.Term{K: k, N: -7, L: l}
			print.Text(x)
			print.Expr(x)
			print.Type(x)
			print.Text(api.Term{K: api.KModule, L: []api.Term{x}})
			print.Text(api.Term{K: api.KModule, L: []api.Term{{K: api.KFn, L: []api.Term{{}, {}, {K: api.KBlock, L: []api.Term{x}}}}}})
		}
	}
}
