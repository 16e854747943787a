package unit_test

import (
	"reflect"
	"strings"
	"testing"

	"notary/api"
	"notary/term"
	"notary/unit"
)

func of(k int, s string, l ...api.Term) api.Term {
	return api.Term{K: k, S: s, L: l}
}

func num(n int64) api.Term { return api.Term{K: api.KNum, N: n} }

var decls = []struct {
	text string
	want api.Term
}{
	{"rec R { a: int; }", of(api.KRecord, "R", of(api.KPart, "a", of(api.KInt, "")))},
	{"rec S { a: [2]R; b: bool; }", of(api.KRecord, "S", of(api.KPart, "a", api.Term{K: api.KArr, N: 2, L: []api.Term{of(api.KRec, "R")}}), of(api.KPart, "b", of(api.KBool, "")))},
	{"const c = 7;", of(api.KDefine, "c", num(7))},
	{"const c = true;", of(api.KDefine, "c", api.Term{K: api.KTruth, N: 1})},
	{"const c = false;", of(api.KDefine, "c", api.Term{K: api.KTruth})},
	{"var v: [3]int;", of(api.KVar, "v", api.Term{K: api.KArr, N: 3, L: []api.Term{of(api.KInt, "")}})},
	{"fn f(): int { }", of(api.KFn, "f", of(api.KParams, ""), of(api.KInt, ""), of(api.KBlock, ""))},
	{"pub fn g(a: int, b: R): bool { return a; }", api.Term{K: api.KFn, N: 1, S: "g", L: []api.Term{
		of(api.KParams, "", of(api.KPart, "a", of(api.KInt, "")), of(api.KPart, "b", of(api.KRec, "R"))), of(api.KBool, ""),
		of(api.KBlock, "", of(api.KReturn, "", of(api.KName, "a")))}}},
	{"fn h(a: int): int { if a { } }", of(api.KFn, "h", of(api.KParams, "", of(api.KPart, "a", of(api.KInt, ""))), of(api.KInt, ""), of(api.KBlock, "", of(api.KIf, "", of(api.KName, "a"), of(api.KBlock, ""), of(api.KBlock, ""))))},
}

func TestDeclarations(t *testing.T) {
	for _, c := range decls {
		m, at, e := unit.Parse(c.text)
		if e != api.OK || at != 0 || m.K != api.KModule || m.From != 0 || m.To != len(c.text) || len(m.L) != 1 || !term.Same(m.L[0], c.want) || m.L[0].From != 0 || m.L[0].To != len(c.text) {
			t.Errorf("%q: %v %d %d", c.text, m, at, e)
		}
	}
	if m, at, e := unit.Parse(" // x"); e != api.OK || at != 0 || !reflect.DeepEqual(m, api.Term{K: api.KModule, To: 5}) {
		t.Error(m, at, e)
	}
	if m, _, e := unit.Parse(""); e != api.OK || !term.Same(m, api.Term{K: api.KModule}) {
		t.Error(m, e)
	}
}

// inside asks whether the parts of a term stand within it, in their order.
func inside(x api.Term) bool {
	at := x.From
	for _, p := range x.L {
		if p.From < at || p.To < p.From || p.To > x.To || !inside(p) {
			return false
		}
		at = p.To
	}
	return true
}

// TestTogether: what two texts declare is declared by both, with a line's end between.
func TestTogether(t *testing.T) {
	for _, a := range decls {
		for _, b := range decls {
			m, _, e := unit.Parse(a.text + "\n" + b.text + "\n")
			if e != api.OK || len(m.L) != 2 || !term.Same(m.L[0], a.want) || !term.Same(m.L[1], b.want) || !inside(m) || m.L[1].From != len(a.text)+1 || m.To != len(a.text)+len(b.text)+2 {
				t.Fatalf("%q, %q: %v %d", a.text, b.text, m, e)
			}
		}
	}
}

func TestPlaces(t *testing.T) {
	text := " pub fn g ( a: int, b : [2] R ) : bool { return a; } rec R { x : int ; }var v :int;const c= 1 ;"
	m, _, e := unit.Parse(text)
	if e != api.OK || !inside(m) {
		t.Fatal(m, e)
	}
	for _, c := range []struct {
		path []int
		want string
	}{
		{[]int{0}, "pub fn g ( a: int, b : [2] R ) : bool { return a; }"}, {[]int{0, 0}, "( a: int, b : [2] R )"}, {[]int{0, 0, 0}, "a: int"}, {[]int{0, 0, 1}, "b : [2] R"}, {[]int{0, 0, 1, 0}, "[2] R"}, {[]int{0, 1}, "bool"}, {[]int{0, 2}, "{ return a; }"},
		{[]int{1}, "rec R { x : int ; }"}, {[]int{1, 0}, "x : int"}, {[]int{2}, "var v :int;"}, {[]int{2, 0}, "int"}, {[]int{3}, "const c= 1 ;"}, {[]int{3, 0}, "1"},
	} {
		if x, ok := term.At(m, c.path); !ok || text[x.From:x.To] != c.want {
			t.Errorf("%v: %q", c.path, text[x.From:x.To])
		}
	}
	empty, _, _ := unit.Parse("fn f ( ): int { }")
	if p := empty.L[0].L[0]; p.From != 5 || p.To != 8 || len(p.L) != 0 {
		t.Error("no parameters", p)
	}
}

func TestErrors(t *testing.T) {
	for _, c := range []struct {
		text string
		at   int
		e    api.Errno
	}{
		{"rec R { }", 8, api.ErrToken}, {"rec", 3, api.ErrToken}, {"rec {", 4, api.ErrToken}, {"rec R a", 6, api.ErrToken}, {"rec R { a }", 10, api.ErrToken}, {"rec R { a: int }", 15, api.ErrToken}, {"rec R { a: int; ", 16, api.ErrToken}, {"rec R { a: int; } ;", 18, api.ErrToken}, {"rec R { a: 1; }", 11, api.ErrToken},
		{"const", 5, api.ErrToken}, {"const c 1", 8, api.ErrToken}, {"const c = -1;", 10, api.ErrToken}, {"const c = d;", 10, api.ErrToken}, {"const c = 1", 11, api.ErrToken}, {"const c = 1 + 1;", 12, api.ErrToken}, {"const 1 = 1;", 6, api.ErrToken},
		{"var a", 5, api.ErrToken}, {"var a: ;", 7, api.ErrToken}, {"var a: int", 10, api.ErrToken}, {"var a: int = 1;", 11, api.ErrToken}, {"var int: int;", 4, api.ErrToken},
		{"pub", 3, api.ErrToken}, {"pub var a: int;", 4, api.ErrToken}, {"fn", 2, api.ErrToken}, {"fn f", 4, api.ErrToken}, {"fn f(", 5, api.ErrToken}, {"fn f(,", 5, api.ErrToken}, {"fn f(a", 6, api.ErrToken}, {"fn f(a: int,)", 12, api.ErrToken}, {"fn f(a: int b", 12, api.ErrToken}, {"fn f() {", 7, api.ErrToken}, {"fn f(): {", 8, api.ErrToken}, {"fn f(): int ;", 12, api.ErrToken}, {"fn f(): int { ", 14, api.ErrToken}, {"fn f(): int { print }", 20, api.ErrToken},
		{"fn z():l{d&&e>e>", 15, api.ErrToken}, {"fn f(): bool { return a || b < c == d; }", 33, api.ErrToken}, {"fn f(): bool { if a && b < c < d { } }", 29, api.ErrToken},
		{"a", 0, api.ErrToken}, {" 1", 1, api.ErrToken}, {"var a: int; }", 12, api.ErrToken}, {"let a = 1;", 0, api.ErrToken},
		{"var a: int; &", 12, api.ErrChar}, {"fn fn 00", 6, api.ErrNumber}, {strings.Repeat(" ", api.MaxSource+1), 0, api.ErrLong}, {"} abcdefghijklmnopq", 2, api.ErrLong},
		{strings.Repeat("var a: int;", 65), 0, api.ErrSize}, {strings.Repeat("var a: int;", 65) + "}", 65 * 11, api.ErrToken},
		{strings.Repeat("var a: int;", 65) + "fn f(): int {" + strings.Repeat("{", 70) + strings.Repeat("}", 71), 0, api.ErrSize},
		{"fn f(): int {" + strings.Repeat("{", 62) + strings.Repeat("}", 63), 0, api.ErrDepth}, {"var a: " + strings.Repeat("[1]", 62) + "int;", 0, api.ErrDepth},
	} {
		if m, at, e := unit.Parse(c.text); at != c.at || e != c.e || !reflect.DeepEqual(m, api.Term{}) {
			t.Errorf("%.60q: %d %d", c.text, at, e)
		}
	}
	for _, text := range []string{strings.Repeat("var a: int;", 64), "fn f(): int {" + strings.Repeat("{", 61) + strings.Repeat("}", 62), "var a: " + strings.Repeat("[1]", 61) + "int;"} {
		if _, at, e := unit.Parse(text); e != api.OK || at != 0 {
			t.Errorf("%.60q: %d %d", text, at, e)
		}
	}
}
