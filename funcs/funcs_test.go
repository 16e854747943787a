package funcs_test

import (
	"math"
	"reflect"
	"slices"
	"strings"
	"testing"

	"notary/api"
	"notary/decls"
	"notary/deriv"
	"notary/funcs"
	"notary/patch"
	"notary/right"
	"notary/term"
)

// mark is a text without its marks « and », and where they stood; a single | is both.
func mark(text string) (string, int, int) {
	if i := strings.Index(text, "|"); i >= 0 && !strings.Contains(text, "«") {
		return text[:i] + text[i+1:], i, i
	}
	i := strings.Index(text, "«")
	text = strings.Replace(text, "«", "", 1)
	j := strings.Index(text, "»")
	return strings.Replace(text, "»", "", 1), i, j
}

const ext, inl, sig = api.ReqExtractFn, api.ReqInlineFn, api.ReqSignature

// cases: what is asked, of which text, and what becomes of it.
var cases = []struct {
	kind int
	nums []int
	text string
	want string
}{
	{ext, nil, "fn f(a: int): int { return «a + 1»; }", "fn g(a: int): int { return a + 1; }\nfn f(a: int): int { return g(a); }"},
	{ext, nil, "fn f(a: int): int { return «7»; }", "fn g(): int { return 7; }\nfn f(a: int): int { return g(); }"},
	{ext, nil, "rec R { x: [2]bool; } var v: R; fn k(r: R): R { return r; } pub fn f(a: int, b: bool): bool { let c: [3]R; for i = 1 to a { c[i] = k(v); let b = c[1]; print (« k( c[i] ).x[ a ] && b.x[0] »); } return b; } const z = 1;", "rec R { x: [2]bool; } var v: R; fn k(r: R): R { return r; } fn g(a: int, c: [3]R, i: int, b: R): bool { return k( c[i] ).x[ a ] && b.x[0]; }\npub fn f(a: int, b: bool): bool { let c: [3]R; for i = 1 to a { c[i] = k(v); let b = c[1]; print ( g(a, c, i, b) ); } return b; } const z = 1;"},
	{ext, nil, "var u: int; fn f(x: int): int { return f(«read + u») * z; } const z = 1;", "var u: int; fn g(): int { return read + u; }\nfn f(x: int): int { return f(g()) * z; } const z = 1;"},
	{ext, nil, "fn f(a: [2]int): int { a[«a[0]»] = [1, 2][1]; return 1; }", "fn g(a: [2]int): int { return a[0]; }\nfn f(a: [2]int): int { a[g(a)] = [1, 2][1]; return 1; }"},
	{inl, nil, "fn g(a: int, b: int): int { return a - b * (a); } fn f(x: int): int { return «g(x + 1, (2))» * 2; }", "fn g(a: int, b: int): int { return a - b * (a); } fn f(x: int): int { return ((x + 1) - (2) * ((x + 1))) * 2; }"},
	{inl, nil, "fn f(): int { let x = 3; do h(«k()»); return 1; } fn k(): int { return 5; } fn h(a: int): int { print a; return 1; }", "fn f(): int { let x = 3; do h((5)); return 1; } fn k(): int { return 5; } fn h(a: int): int { print a; return 1; }"},
	{inl, nil, "rec R { p: int; q: bool; } fn r(a: R, b: bool, p: int): bool { return a.q && (b || a.p < p); } var v: R; fn f(): bool { let v_ = true; return « r(v, !v_, v.p) »; }", "rec R { p: int; q: bool; } fn r(a: R, b: bool, p: int): bool { return a.q && (b || a.p < p); } var v: R; fn f(): bool { let v_ = true; return  ((v).q && ((!v_) || (v).p < (v.p))) ; }"},
	{sig, []int{1, 0}, "fn h(): int { return f( 1 , (2)+g ) + f(g, g); } var g: int; |fn f(a: int , b :int): int { if a < 1 { return b; } return f(a - 1, b); }", "fn h(): int { return f((2)+g, 1) + f(g, g); } var g: int; fn f(b :int, a: int): int { if a < 1 { return b; } return f(b, a - 1); }"},
	{sig, []int{2, 0, 1}, "fn f(a: int, b: [2]int, c: bool): int { |return b[a]; } fn g(): int { return f // (\n (1, [2, 3], (true)); }", "fn f(c: bool, a: int, b: [2]int): int { return b[a]; } fn g(): int { return f // (\n (true, 1, [2, 3]); }"},
	{sig, []int{1, 0}, "fn k(a: int, b: int): int { return a; } |fn f(a: int, b: int): int { return k(a, b); } fn g(): int { return k(f(1, 2), k(3, 4)); }", "fn k(a: int, b: int): int { return a; } fn f(b: int, a: int): int { return k(a, b); } fn g(): int { return k(f(2, 1), k(3, 4)); }"},
	{ext, nil, "fn f(a: int, b: int): int { let a_ = b; return «a * a + b - a_ * b»; }", "fn g(a: int, b: int, a_: int): int { return a * a + b - a_ * b; }\nfn f(a: int, b: int): int { let a_ = b; return g(a, b, a_); }"},
	{sig, []int{0}, "|fn f(a: int): int { return a; } fn g(): int { return f( 1 ); }", "fn f(a: int): int { return a; } fn g(): int { return f(1); }"},
	{sig, []int{0}, "fn f(a: int, b: int): int { return a|; } fn g(): int { return f(1, 2); }", "fn f(a: int): int { return a; } fn g(): int { return f(1); }"},
	{sig, []int{1}, "fn f(a: int , b: int): int { return b|; } fn g(): int { return f((1) , 2); }", "fn f( b: int): int { return b; } fn g(): int { return f( 2); }"},
	{sig, []int{0, 2}, "fn g(): int { return f(f(1, [2, 3], 4), [1, 2], f(5, ([6, 7]), 8)); } |fn f(a: int, b: [2]int, c: int): int { return a + c; }", "fn g(): int { return f(f(1, 4), f(5, 8)); } fn f(a: int, c: int): int { return a + c; }"},
	{sig, []int{0, 1}, "fn f(a: int, b: int, c: int // ,\n): int { |return a + b; } fn g(): int { return f(read, f(1, 2, 3), 4 // , )\n ); }", "fn f(a: int, b: int): int { return a + b; } fn g(): int { return f(read, f(1, 2)); }"},
	{sig, []int{}, "|fn f( a: int ): int { return 1; } fn g(): int { return f( 2 ); }", "fn f(): int { return 1; } fn g(): int { return f(); }"},
}

func TestDrafts(t *testing.T) {
	for _, c := range cases {
		text, from, to := mark(c.text)
		l, d, e := funcs.Draft(text, api.Request{Kind: c.kind, From: from, To: to, Name: "g", Nums: c.nums})
		if e != api.OK || d.K != api.DerSeq {
			t.Errorf("%q: %d", c.text, e)
			continue
		}
		out, e := patch.Apply(text, l)
		if e != api.OK || out != c.want || !slices.IsSortedFunc(l, func(a, b api.Edit) int { return a.From - b.From }) {
			t.Errorf("%q: %q %v %d", c.text, out, l, e)
		}
		rules := map[int][]int{ext: {api.DropDecl, api.CallUnfold}, inl: {api.CallUnfold}, sig: {api.DropParam}}[c.kind]
		if c.kind == sig && len(c.nums) > 0 && slices.Contains(c.nums, slices.Max(c.nums)) && len(c.nums) == strings.Count(strings.Split(text[strings.Index(text, "fn f"):], ")")[0], ":") {
			rules = []int{api.PermParams}
		}
		for i, s := range d.L {
			if len(d.L) != len(rules) || s.K != api.DerStep || s.Step.Rule != rules[i] || s.Step.Back != (c.kind == ext) {
				t.Errorf("%q: %v", c.text, s)
			}
		}
		_, m, _, _ := right.Read(text)
		_, n, at, e := right.Read(out)
		x, _, _, _, e2 := deriv.Run(m, d)
		if e != api.OK || e2 != api.OK || !term.Same(x, n) {
			t.Errorf("%q became %q: %d %d, %d", c.text, out, at, e, e2)
		}
	}
}

// TestThereAndBack: a function that was extracted, and whose call is inlined, leads back, but for the function.
func TestThereAndBack(t *testing.T) {
	for _, c := range cases {
		if c.kind != ext {
			continue
		}
		text, from, to := mark(c.text)
		l, _, _ := funcs.Draft(text, api.Request{Kind: ext, From: from, To: to, Name: "g"})
		out, _ := patch.Apply(text, l)
		r, _ := patch.Regions(text, l)
		l, _, e := funcs.Draft(out, api.Request{Kind: inl, From: r[1].FromQ, To: r[1].ToQ})
		back, e2 := patch.Apply(out, l)
		_, m, _, _ := right.Read(text)
		named, n, at, e3 := right.Read(back)
		place := slices.IndexFunc(named.L, func(d api.Term) bool { return d.S == "g" && d.K == api.KFn })
		x, ok := decls.Drop(n, place)
		if e != api.OK || e2 != api.OK || e3 != api.OK || !ok || !term.Same(m, x) {
			t.Errorf("%q became %q became %q: %d %d %d %d", text, out, back, e, e2, at, e3)
		}
	}
}

func TestExamples(t *testing.T) {
	l, d, e := funcs.Draft("fn f(a: int): int { return a + 1; }", api.Request{Kind: ext, From: 26, To: 32, Name: "g"})
	if e != api.OK || !slices.Equal(l, []api.Edit{{From: 0, To: 0, Text: "fn g(a: int): int { return a + 1; }\n"}, {From: 27, To: 32, Text: "g(a)"}}) {
		t.Error(l, e)
	}
	_, m, _, _ := right.Read("fn g(a: int): int { return a + 1; } fn f(a: int): int { return a + 1; }")
	want := api.Deriv{K: api.DerSeq, L: []api.Deriv{
		{K: api.DerStep, Step: api.Step{Rule: api.DropDecl, Back: true, Nums: []int{0}, Term: m}},
		{K: api.DerStep, Step: api.Step{Rule: api.CallUnfold, Back: true, Path: []int{1, 2, 0, 0}, Term: api.Term{K: api.KCall, L: []api.Term{{K: api.KLocal}}}}},
	}}
	if !reflect.DeepEqual(d, want) {
		t.Error(d)
	}
	l, d, e = funcs.Draft("fn f(a: int, b: int): int { return a; } fn g(): int { return f(1, 2); }", api.Request{Kind: sig, Nums: []int{0}})
	if e != api.OK || !slices.Equal(l, []api.Edit{{From: 11, To: 19}, {From: 64, To: 67}}) || d.L[0].Step.Rule != api.DropParam || !slices.Equal(d.L[0].Step.Nums, []int{0, 1}) || len(d.L[0].Step.Path) != 0 {
		t.Error(l, d, e)
	}
}

func TestErrors(t *testing.T) {
	for i, c := range []struct {
		kind int
		name string
		nums []int
		text string
		e    api.Errno
	}{
		{api.ReqRename, "b", nil, "&|", api.ErrKind}, {0, "", nil, "&|", api.ErrKind}, {api.ReqExtractVar, "b", nil, "&|", api.ErrKind}, {api.ReqReorder, "", nil, "&|", api.ErrKind}, {-1, "", nil, "&|", api.ErrKind}, {99, "", nil, "&|", api.ErrKind},
		{ext, "if", nil, "&|", api.ErrChar}, {inl, "", nil, "fn|", api.ErrToken}, {sig, "", []int{7}, "fn f(): int { return |x; }", api.ErrName}, {ext, "b", nil, "fn f(): int { return |true; }", api.ErrType},
		{ext, "", nil, "fn f(): int { return |1; }", api.ErrName}, {ext, "read", nil, "fn f(): int { return «1»; }", api.ErrName}, {inl, "1", nil, "fn k(): int { return 1; } fn f(): int { return «k()»; }", api.OK}, {sig, "1", []int{0}, "|fn f(a: int): int { return 1; }", api.OK},
		{ext, "b", nil, "fn f(): int { return |1; }", api.ErrSelect}, {ext, "b", nil, "const c = «1»;", api.ErrSelect}, {ext, "b", nil, "fn f(a: int): int { «a» = 1; }", api.ErrSelect}, {ext, "b", nil, "fn f(a: int): int { «a = 1;» }", api.ErrSelect}, {inl, "", nil, "fn f(a: int): int { return «a»; }", api.ErrSelect}, {inl, "", nil, "fn f(a: int): int { return f(|a); }", api.ErrSelect}, {inl, "", nil, "fn f(a: int): int { return «f(a) + 1»; }", api.ErrSelect}, {inl, "", nil, "|", api.ErrSelect},
		{sig, "", []int{0}, "var a: int;| fn f(a: int): int { }", api.ErrSelect}, {sig, "", nil, "|fn f(): int { }", api.ErrSelect}, {sig, "", []int{0}, "|fn f(): int { }", api.ErrSelect}, {sig, "", nil, "|", api.ErrSelect},
		{sig, "", []int{0}, "|fn f(a: int, b: int, c: int): int { }", api.ErrRange}, {sig, "", []int{0, 1, 2, 3}, "|fn f(a: int, b: int, c: int): int { }", api.ErrRange}, {sig, "", []int{1, 0}, "|fn f(a: int, b: int, c: int): int { }", api.ErrRange}, {sig, "", []int{1, 1}, "|fn f(a: int, b: int, c: int): int { }", api.ErrRange}, {sig, "", []int{1, 3}, "|fn f(a: int, b: int, c: int): int { }", api.ErrRange}, {sig, "", []int{-1, 0}, "|fn f(a: int, b: int, c: int): int { }", api.ErrRange}, {sig, "", []int{math.MaxInt}, "|fn f(a: int, b: int): int { }", api.ErrRange}, {sig, "", []int{math.MinInt}, "|fn f(a: int, b: int): int { }", api.ErrRange}, {sig, "", nil, "|fn f(a: int, b: int): int { }", api.ErrRange},
		{sig, "", []int{0, 0}, "|fn f(a: int, b: int): int { }", api.ErrSide}, {sig, "", []int{0, 2}, "|fn f(a: int, b: int): int { }", api.ErrSide}, {sig, "", []int{0, 1}, "|fn f(a: int, b: int): int { }", api.OK}, {sig, "", []int{1, 0}, "|pub fn f(a: int, b: int): int { }", api.ErrSide}, {sig, "", []int{1}, "|pub fn f(a: int, b: int): int { }", api.ErrSide}, {sig, "", []int{1, 0}, "|fn f(a: int, b: int): int { return f(read, b); }", api.ErrSide}, {sig, "", []int{0}, "|fn f(a: int, b: int): int { return b; }", api.ErrSide}, {sig, "", []int{0}, "|fn f(a: int, b: int): int { return f(a, read); }", api.ErrSide}, {sig, "", []int{}, "|fn f(a: int): int { return f(a); }", api.ErrSide},
		{inl, "", nil, "fn f(a: int): int { return «f(a)»; }", api.ErrSide}, {inl, "", nil, "fn k(a: int): int { return a; } fn f(a: int): int { return «k(read)»; }", api.ErrSide}, {inl, "", nil, "fn k(a: int): int { print a; return a; } fn f(a: int): int { return «k(1)»; }", api.ErrSide}, {inl, "", nil, "var v: int; fn w(): int { v = 1; return 2; } fn k(a: int): int { return w() + a; } fn f(): int { return «k(v)»; }", api.ErrSide}, {ext, "b", nil, "fn f(a: int): int { return «f(read)»; }", api.OK},
	} {
		text, from, to := mark(c.text)
		l, d, e := funcs.Draft(text, api.Request{Kind: c.kind, From: from, To: to, Name: c.name, Nums: c.nums})
		if e != c.e || e != api.OK && (len(l) != 0 || !reflect.DeepEqual(d, api.Deriv{})) {
			t.Errorf("%d: %q: %d, not %d", i, c.text, e, c.e)
		}
	}
	for _, p := range [][2]int{{-1, 5}, {math.MinInt, math.MaxInt}, {5, 1}, {0, 999}} {
		for kind := range 14 {
			funcs.Draft("fn f(a: int): int { let x = f(1); return x; }", api.Request{Kind: kind, From: p[0], To: p[1], Name: "b", Nums: []int{0}})
		}
	}
}
