package vars_test

import (
	"math"
	"reflect"
	"slices"
	"strings"
	"testing"

	"notary/api"
	"notary/deriv"
	"notary/patch"
	"notary/right"
	"notary/term"
	"notary/vars"
)

// mark is a text without its marks < and >, and where they stood; a single | is both.
func mark(text string) (string, int, int) {
	if i := strings.Index(text, "|"); i >= 0 && !strings.Contains(text, "«") {
		return text[:i] + text[i+1:], i, i
	}
	i := strings.Index(text, "«")
	text = strings.Replace(text, "«", "", 1)
	j := strings.Index(text, "»")
	return strings.Replace(text, "»", "", 1), i, j
}

// cases: what is asked, of which text, what becomes of it, and by which rules.
var cases = []struct {
	kind  int
	name  string
	nums  []int
	text  string
	want  string
	rules []int
}{
	{api.ReqExtractVar, "b", nil, "fn f(a: int): int { return «a + 1»; }", "fn f(a: int): int { let b = a + 1; return b; }", []int{api.LetNext}},
	{api.ReqExtractVar, "b", nil, "fn f(a: int): int { return ( « a » + 1); }", "fn f(a: int): int { let b = a; return (  b  + 1); }", []int{api.LetNext}},
	{api.ReqExtractVar, "b", nil, "fn f(a: int): int { let x = 1; while «x * x» < 3 { a = a + 1; } let y = x; return y; }", "fn f(a: int): int { let x = 1; let b = x * x; while b < 3 { a = a + 1; } let y = x; return y; }", []int{api.LetSubst}},
	{api.ReqExtractVar, "b", nil, "var g: [3]int; fn f(a: int): int { g = [a, «a - 1», 2]; let c = 5; { print g[c - a]; } return a; }", "var g: [3]int; fn f(a: int): int { let b = a - 1; g = [a, b, 2]; let c = 5; { print g[c - a]; } return a; }", []int{api.LetNext}},
	{api.ReqExtractVar, "b", nil, "fn f(a: [3]int, i: int): int { a[«i + 1»] = 3; return a[i]; }", "fn f(a: [3]int, i: int): int { let b = i + 1; a[b] = 3; return a[i]; }", []int{api.LetSubst}},
	{api.ReqExtractVar, "b", nil, "fn f(a: int): int { for i = 1 to 3 { print a + «i * 2»; a = 4; } return a; }", "fn f(a: int): int { for i = 1 to 3 { let b = i * 2; print a + b; a = 4; } return a; }", []int{api.LetNext}},
	{api.ReqExtractVar, "b", nil, "fn f(a: int): int { if «a < 3» { return 1; } return 2; }", "fn f(a: int): int { let b = a < 3; if b { return 1; } return 2; }", []int{api.LetNext}},
	{api.ReqInlineVar, "", nil, "fn f(a: int): int { |let b = a + 1; return b; }", "fn f(a: int): int {  return (a + 1); }", []int{api.LetSubst}},
	{api.ReqInlineVar, "", nil, "fn f(a: int): int { let b = 1; let c =| a * b; print c; { let d = 3; print c; } for i = c to 9 { print c + i; } return 0; }", "", []int{api.LetSubst}},
	{api.ReqInlineVar, "", nil, "fn f(a: int): int { let d = 7; le|t c = a * 2; print c; { let e = 3; print c + e; } return d; }", "fn f(a: int): int { let d = 7;  print (a * 2); { let e = 3; print (a * 2) + e; } return d; }", []int{api.LetSubst}},
	{api.ReqInlineVar, "", nil, "var g: int; fn f(a: int): int { let c = g|; g = c + 1; return a; }", "var g: int; fn f(a: int): int {  g = (g) + 1; return a; }", []int{api.LetNext}},
	{api.ReqInlineVar, "", nil, "fn f(a: int): int { |let c = a; return a; }", "fn f(a: int): int {  return a; }", []int{api.LetSubst}},
	{api.ReqSplit, "", nil, "fn f(): int { |let x = 1; return x; }", "fn f(): int { let x: int; x = 1; return x; }", []int{api.SplitLet}},
	{api.ReqSplit, "", nil, "rec R { q: bool; } fn f(r: [2]R): bool { let y = 1; let x// c\n =|[r, r]; return x[y][0].q; }", "rec R { q: bool; } fn f(r: [2]R): bool { let y = 1; let x: [2][2]R; x =[r, r]; return x[y][0].q; }", []int{api.SplitLet}},
	{api.ReqSplit, "", nil, "fn f(): bool { let y = true; { let x = |y == (1 == 2); return x; } }", "fn f(): bool { let y = true; { let x: bool; x = y == (1 == 2); return x; } }", []int{api.SplitLet}},
	{api.ReqSplit, "", []int{1}, "fn f(a: int): int { let y = 2; |let x: int; x = a + y; return x; }", "fn f(a: int): int { let y = 2; let x = a + y; return x; }", []int{api.SplitLet}},
	{api.ReqSplit, "", []int{1}, "fn f(a: int): [2]bool { let x // z\n: [2]|bool;\n(x)= [a == 1, true]; x[0] = x[1]; return x; }", "fn f(a: int): [2]bool { let x = [a == 1, true]; x[0] = x[1]; return x; }", []int{api.SplitLet}},
	{api.ReqConst, "ONE", nil, "fn f(): int { return «1»; }", "const ONE = 1;\nfn f(): int { return ONE; }", []int{api.DropDecl, api.ConstRef}},
	{api.ReqConst, "YES", nil, "var g: R; rec R { x: int; } fn h(): int { return f(g); } pub fn k(): bool { return «true» && c > h(); } const c = 4; fn f(r: R): int { r.x = c; return h(); }", "var g: R; rec R { x: int; } fn h(): int { return f(g); } const YES = true;\npub fn k(): bool { return YES && c > h(); } const c = 4; fn f(r: R): int { r.x = c; return h(); }", []int{api.DropDecl, api.ConstRef}},
}

func TestDrafts(t *testing.T) {
	for _, c := range cases {
		text, from, to := mark(c.text)
		l, d, e := vars.Draft(text, api.Request{Kind: c.kind, From: from, To: to, Name: c.name, Nums: c.nums})
		if e != api.OK || d.K != api.DerSeq || len(d.L) != len(c.rules) || len(d.Path) != 0 {
			t.Errorf("%q: %v %d", c.text, d, e)
			continue
		}
		for i, s := range d.L {
			back := c.kind == api.ReqExtractVar || c.kind == api.ReqConst || len(c.nums) > 0
			if s.K != api.DerStep || s.Step.Rule != c.rules[i] || s.Step.Back != back {
				t.Errorf("%q: %v", c.text, s)
			}
		}
		if !slices.IsSortedFunc(l, func(a, b api.Edit) int { return a.From - b.From }) {
			t.Errorf("%q: %v", c.text, l)
		}
		out, e := patch.Apply(text, l)
		if e != api.OK || c.want != "" && out != c.want {
			t.Errorf("%q: %q", c.text, out)
		}
		_, m, _, _ := right.Read(text)
		_, n, at, e := right.Read(out)
		x, _, _, _, e2 := deriv.Run(m, d)
		if e != api.OK || e2 != api.OK || !term.Same(x, n) {
			t.Errorf("%q became %q: %d %d, %d", c.text, out, at, e, e2)
		}
	}
}

// TestThereAndBack: a variable that was extracted, and is inlined, leads back; so does one that was split, and merged.
func TestThereAndBack(t *testing.T) {
	for _, c := range cases {
		if c.kind != api.ReqExtractVar && (c.kind != api.ReqSplit || len(c.nums) > 0) {
			continue
		}
		text, from, to := mark(c.text)
		l, _, _ := vars.Draft(text, api.Request{Kind: c.kind, From: from, To: to, Name: c.name, Nums: c.nums})
		out, _ := patch.Apply(text, l)
		again := api.Request{Kind: api.ReqInlineVar, From: l[0].From}
		if c.kind == api.ReqSplit {
			again = api.Request{Kind: api.ReqSplit, From: from - 5, Nums: []int{1}}
			again.From = strings.LastIndex(out[:l[0].From], "let")
		}
		l, _, e := vars.Draft(out, again)
		back, e2 := patch.Apply(out, l)
		_, m, _, _ := right.Read(text)
		_, n, at, e3 := right.Read(back)
		if e != api.OK || e2 != api.OK || e3 != api.OK || !term.Same(m, n) {
			t.Errorf("%q became %q became %q: %d %d %d %d", text, out, back, e, e2, at, e3)
		}
	}
}

func TestExamples(t *testing.T) {
	text := "fn f(a: int): int { return a + 1; }"
	l, d, e := vars.Draft(text, api.Request{Kind: api.ReqExtractVar, From: 26, To: 34, Name: "b"})
	want := []api.Edit{{From: 20, To: 20, Text: "let b = a + 1; "}, {From: 27, To: 32, Text: "b"}}
	_, m, _, _ := right.Read("fn f(a: int): int { let b = a + 1; return b; }")
	if e != api.ErrSelect {
		t.Error("with the semicolon", e)
	}
	l, d, e = vars.Draft(text, api.Request{Kind: api.ReqExtractVar, From: 26, To: 32, Name: "b"})
	if e != api.OK || !slices.Equal(l, want) || !reflect.DeepEqual(d, api.Deriv{K: api.DerSeq, L: []api.Deriv{{K: api.DerStep, Step: api.Step{Rule: api.LetNext, Back: true, Path: []int{0, 2}, Nums: []int{0}, Term: m.L[0].L[2]}}}}) {
		t.Error(l, d, e)
	}
	l, _, _ = vars.Draft("fn f(): int { return 1; }", api.Request{Kind: api.ReqConst, From: 21, To: 22, Name: "ONE"})
	if !slices.Equal(l, []api.Edit{{From: 0, To: 0, Text: "const ONE = 1;\n"}, {From: 21, To: 22, Text: "ONE"}}) {
		t.Error(l)
	}
}

func TestErrors(t *testing.T) {
	const ext, inl, spl, con = api.ReqExtractVar, api.ReqInlineVar, api.ReqSplit, api.ReqConst
	for i, c := range []struct {
		kind int
		name string
		nums []int
		text string
		e    api.Errno
	}{
		{api.ReqRename, "b", nil, "&|", api.ErrKind}, {0, "", nil, "&|", api.ErrKind}, {api.ReqExtractFn, "b", nil, "&|", api.ErrKind}, {api.ReqDead, "", nil, "&|", api.ErrKind}, {-1, "", nil, "&|", api.ErrKind}, {99, "", nil, "&|", api.ErrKind},
		{ext, "if", nil, "&|", api.ErrChar}, {inl, "", nil, "fn|", api.ErrToken}, {spl, "", []int{7}, "fn f(): int { return |x; }", api.ErrName}, {con, "", nil, "fn f(): int { return |true; }", api.ErrType},
		{spl, "", []int{0}, "fn f(): int { |let x = 1; }", api.ErrRange}, {spl, "", []int{1, 1}, "fn f(): int { |let x = 1; }", api.ErrRange}, {spl, "", []int{-1}, "fn f(): int { | }", api.ErrRange}, {spl, "", []int{math.MinInt}, "fn f(): int { | }", api.ErrRange},
		{ext, "", nil, "fn f(): int { return «1»; }", api.ErrName}, {ext, "let", nil, "fn f(): int { | }", api.ErrName}, {con, "1", nil, "fn f(): int { return «1»; }", api.ErrName}, {inl, "1", nil, "fn f(): int { |let x = 1; }", api.OK}, {spl, "1", nil, "fn f(): int { |let x = 1; }", api.OK},
		{ext, "b", nil, "fn f(): int { return |1; }", api.ErrSelect}, {ext, "b", nil, "fn f(): int { «return 1»; }", api.ErrSelect}, {ext, "b", nil, "const c = «1»; fn f(): int { }", api.ErrSelect}, {ext, "b", nil, "fn f(a: int): int { «a» = 1; }", api.ErrSelect}, {ext, "b", nil, "fn f(a: [2]int): int { «a[0]» = 1; }", api.ErrSelect}, {con, "b", nil, "fn f(a: int): int { return «a»; }", api.ErrSelect}, {con, "b", nil, "fn f(a: int): int { return «1 + 2»; }", api.ErrSelect}, {con, "b", nil, "const c = «1»; fn f(a: int): int { return 1; }", api.ErrSelect}, {con, "b", nil, "fn f(a: int): int { return |1; }", api.ErrSelect},
		{inl, "", nil, "fn f(): int { let x = 1;| }", api.ErrSelect}, {inl, "", nil, "fn f(): int { |let x: int; }", api.ErrSelect}, {spl, "", nil, "fn f(): int { |let x: int; }", api.ErrSelect}, {spl, "", []int{1}, "fn f(): int { |let x = 1; }", api.ErrSelect}, {inl, "", nil, "|", api.ErrSelect}, {ext, "b", nil, "|", api.ErrSelect}, {inl, "", nil, "fn f(): int { |print 1; }", api.ErrSelect},
		{ext, "b", nil, "fn f(): int { return «read»; }", api.ErrQuiet}, {ext, "b", nil, "fn f(): int { return «f()»; }", api.ErrQuiet}, {ext, "b", nil, "fn f(a: int): int { return 1 / 2 + «1 / a»; }", api.ErrQuiet}, {inl, "", nil, "fn f(): int { |let x = f(); return x; }", api.ErrQuiet}, {inl, "", nil, "fn f(a: int): int { |let x = 1 / a; return x; }", api.ErrQuiet}, {con, "b", nil, "fn f(a: int): int { return f(«1»); }", api.OK},
		{ext, "b", nil, "fn f(a: int): int { while «a < 3» { a = a + 1; } return a; }", api.ErrSide}, {ext, "b", nil, "var g: int; fn f(): int { g = g + 1; return 2; } fn h(): int { return f() + «g»; }", api.ErrSide}, {ext, "b", nil, "fn f(a: [3]int, i: int): int { a[«i»] = 3; i = 1; return 2; }", api.ErrSide},
		{inl, "", nil, "fn f(a: int): int { |let x = a; a = 1; return x; }", api.ErrSide}, {inl, "", nil, "fn f(a: int): int { |let x = a; x = 1; return x; }", api.ErrSide}, {inl, "", nil, "fn f(a: int): int { let y = 1; |let x = a; while x < 3 { a = 1; } return x; }", api.ErrSide},
		{spl, "", []int{1}, "fn f(a: int): int { |let x: int; }", api.ErrSide}, {spl, "", []int{1}, "fn f(a: int): int { |let x: int; print x; x = 1; }", api.ErrSide}, {spl, "", []int{1}, "fn f(a: int): int { |let x: int; x = x + 1; }", api.ErrSide}, {spl, "", []int{1}, "fn f(a: int): int { |let x: int; a = 1; }", api.ErrSide}, {spl, "", []int{1}, "fn f(a: int): int { |let x: [2]int; x[0] = 1; }", api.ErrSide}, {spl, "", []int{1}, "fn f(a: int): int { |let x: int; { x = 1; } }", api.ErrSide},
	} {
		text, from, to := mark(c.text)
		l, d, e := vars.Draft(text, api.Request{Kind: c.kind, From: from, To: to, Name: c.name, Nums: c.nums})
		if e != c.e || e != api.OK && (len(l) != 0 || !reflect.DeepEqual(d, api.Deriv{})) {
			t.Errorf("%d: %q: %d, not %d", i, c.text, e, c.e)
		}
	}
	for _, p := range [][2]int{{-1, 5}, {math.MinInt, math.MaxInt}, {5, 1}, {0, 999}} {
		for kind := range 14 {
			vars.Draft("fn f(): int { let x = 1; return x; }", api.Request{Kind: kind, From: p[0], To: p[1], Name: "b"})
		}
	}
}
