package engine_test

import (
	"reflect"
	"slices"
	"strconv"
	"strings"
	"testing"

	"notary/api"
	"notary/cert"
	"notary/check"
	"notary/deriv"
	"notary/engine"
	"notary/face"
	"notary/patch"
	"notary/region"
	"notary/right"
	"notary/term"
)

// mark is a text without its marks « and », and where they stood.
func mark(text string) (string, int, int) {
	i := strings.Index(text, "«")
	text = strings.Replace(text, "«", "", 1)
	j := strings.Index(text, "»")
	return strings.Replace(text, "»", "", 1), i, j
}

// plans: what is asked, of which text, and what becomes of it.
var plans = []struct {
	kind int
	name string
	nums []int
	text string
	want string
}{
	{api.ReqRename, "b", nil, "var «a»: int; fn f(a: int): int { return a; }", "var b: int; fn f(a: int): int { return a; }"},
	{api.ReqRename, "b", nil, "var a: int; fn f(«a»: int): int { return a; }", "var a: int; fn f(b: int): int { return b; }"},
	{api.ReqRename, "zz", nil, "rec R { «x»: int; } pub fn f(x: int): int { let r = new R(x); return r.x; }", "rec R { zz: int; } pub fn f(x: int): int { let r = new R(x); return r.zz; }"},
	{api.ReqRename, "other", nil, "pub fn «f»(x: int): int { return f(x); } fn g(): int { return f(1); }", "pub fn other(x: int): int { return other(x); } fn g(): int { return other(1); }"},
	{api.ReqExtractVar, "b", nil, "pub fn f(a: int): int { return «a + 1»; }", "pub fn f(a: int): int { let b = a + 1; return b; }"},
	{api.ReqInlineVar, "", nil, "pub fn f(a: int): int { «»let b = a + 1; return b; }", "pub fn f(a: int): int {  return (a + 1); }"},
	{api.ReqExtractFn, "g", nil, "var v: int; pub fn f(a: int): int { return v * («a + read»); }", "var v: int; fn g(a: int): int { return a + read; }\npub fn f(a: int): int { return v * (g(a)); }"},
	{api.ReqInlineFn, "", nil, "fn g(a: int): int { return a + read; } pub fn f(a: int): int { return 2 * «g(a)»; }", "fn g(a: int): int { return a + read; } pub fn f(a: int): int { return 2 * ((a) + read); }"},
	{api.ReqSignature, "", []int{1, 0}, "«»fn g(a: int, b: int): int { return a - b; } pub fn f(): int { return g(1, 2); }", "fn g(b: int, a: int): int { return a - b; } pub fn f(): int { return g(2, 1); }"},
	{api.ReqSignature, "", []int{1}, "«»fn g(a: int, b: int): int { return b; } pub fn f(): int { return g(1, 2); }", "fn g( b: int): int { return b; } pub fn f(): int { return g( 2); }"},
	{api.ReqReorder, "", []int{1, 2, 0}, "«»var v: int;\npub fn f(): int { return c; }\n\nconst c = 1;\n", "pub fn f(): int { return c; }\nconst c = 1;\n\nvar v: int;\n"},
	{api.ReqDead, "", nil, "pub fn f(a: int): int { «»let b = a + 1; return a; }", "pub fn f(a: int): int {  return a; }"},
	{api.ReqDead, "", []int{0}, "pub fn f(a: int): int { return a; } «»var v: int; ", "pub fn f(a: int): int { return a; }  "},
	{api.ReqDead, "", []int{1}, "pub fn f(a: int): int { «»return a; print 1; }", "pub fn f(a: int): int { return a;  }"},
	{api.ReqInvert, "", nil, "pub fn f(a: int): int { «»if a < 1 { return 1; } return a; }", "pub fn f(a: int): int { if !(a < 1) { } else { return 1; } return a; }"},
	{api.ReqLoop, "k", nil, "pub fn f(a: int): int { «»for i = 1 to a { print i; } return a; }", "pub fn f(a: int): int { { let k = 1; let k_ = a; while k < k_ { let i = k; { print i; } k = k + 1; } } return a; }"},
	{api.ReqSplit, "", nil, "pub fn f(a: int): int { «»let b = [a]; return b[0]; }", "pub fn f(a: int): int { let b: [1]int; b = [a]; return b[0]; }"},
	{api.ReqSplit, "", []int{1}, "pub fn f(a: int): int { «»let b: [1]int; b = [a]; return b[0]; }", "pub fn f(a: int): int { let b = [a]; return b[0]; }"},
	{api.ReqConst, "k", nil, "var v: int; pub fn f(a: int): int { return a + «42»; }", "var v: int; const k = 42;\npub fn f(a: int): int { return a + k; }"},
}

func TestPlans(t *testing.T) {
	seen := map[int]bool{}
	for _, c := range plans {
		seen[c.kind] = true
		text, from, to := mark(c.text)
		p, e := engine.Make(text, api.Request{Kind: c.kind, From: from, To: to, Name: c.name, Nums: c.nums})
		out, e2 := engine.Apply(text, p)
		if e != api.OK || e2 != api.OK || out != c.want {
			t.Errorf("%q: %q %d %d", c.text, out, e, e2)
			continue
		}
		v, e := check.Check(text, out, p.Cert)
		named, m, _, _ := right.Read(text)
		if e != api.OK || len(v.Names) != len(face.Of(named, m)) {
			t.Errorf("%q is not accepted: %d %v", c.text, e, v)
		}
		flipped, e := check.Flip(text, out, p.Cert)
		if w, e2 := check.Check(out, text, flipped); e != api.OK || e2 != api.OK || w.Slack != v.Slack {
			t.Errorf("%q the other way round: %d %d", c.text, e, e2)
		}
		x, e := cert.Read(p.Cert)
		r, _ := patch.Regions(text, p.Edits)
		if e != api.OK || !slices.Equal(x.Regions, r) || region.Check(text, out, x.Regions) != api.OK {
			t.Errorf("%q: regions %v", c.text, x.Regions)
		}
		last, slack, pairs, _, e := deriv.Run(m, x.Deriv)
		_, n, _, _ := right.Read(out)
		if e != api.OK || slack != v.Slack || !slices.Equal(pairs, x.Pairs) || !term.Same(last, n) || c.kind == api.ReqRename && !term.Same(m, n) {
			t.Errorf("%q: %d %v %d", c.text, slack, pairs, e)
		}
		back, _ := patch.Back(text, p.Edits)
		if q, e := patch.Apply(out, back); q != text || e != api.OK {
			t.Errorf("%q does not come back", c.text)
		}
	}
	for kind := api.ReqRename; kind <= api.ReqConst; kind++ {
		if !seen[kind] {
			t.Errorf("no plan of the kind %d", kind)
		}
	}
}

func TestExamples(t *testing.T) {
	p, e := engine.Make("var a: int; fn f(a: int): int { return a; }", api.Request{Kind: api.ReqRename, From: 4, To: 5, Name: "b"})
	if e != api.OK || !slices.Equal(p.Edits, []api.Edit{{From: 4, To: 5, Text: "b"}}) || !slices.Equal(p.Cert, []byte{78, 67, 2, 0, 0, 1, 1, 1, 4, 5, 4, 5, 2, 0}) {
		t.Error(p, e)
	}
	if p, e := engine.Make("fn f(): int { return read; }", api.Request{Kind: api.ReqExtractVar, From: 21, To: 25, Name: "b"}); e != api.ErrQuiet || !reflect.DeepEqual(p, api.Plan{}) {
		t.Error(p, e)
	}
}

func TestErrors(t *testing.T) {
	minus := strings.Repeat("-", 40)
	var many []string
	for i := range 64 {
		many = append(many, "fn f"+strconv.Itoa(i)+"(): int { return 1; }")
	}
	for i, c := range []struct {
		kind int
		name string
		nums []int
		text string
		e    api.Errno
	}{
		{0, "", nil, "«»&", api.ErrKind}, {13, "", nil, "«»&", api.ErrKind}, {-1, "", nil, "«»&", api.ErrKind}, {1 << 40, "", nil, "«»&", api.ErrKind},
		{api.ReqRename, "b", nil, "«»&", api.ErrChar}, {api.ReqRename, "if", nil, "var «a»: int;", api.ErrName}, {api.ReqRename, "b", nil, "var «»a: int;", api.ErrSelect}, {api.ReqSplit, "", []int{3}, "«»", api.ErrRange}, {api.ReqInlineFn, "", nil, "fn f(): int { return «f()»; }", api.ErrSide}, {api.ReqDead, "", []int{0}, "«»pub fn f(): int { }", api.ErrSide},
		{api.ReqRename, "b", nil, "var «a»: int; fn f(b: int): int { return a + b; }", api.ErrCapture}, {api.ReqRename, "b", nil, "var «a»: int; var b: int;", api.ErrCapture}, {api.ReqRename, "b", nil, "fn f(a: int, «c»: int): int { let b = a; return c + b; }", api.ErrCapture}, {api.ReqRename, "x", nil, "rec R { «a»: int; x: int; }", api.ErrCapture}, {api.ReqRename, "a", nil, "var «b»: int; fn f(a: int): int { return a; }", api.OK}, {api.ReqRename, "g", nil, "fn «f»(): int { return 1; } fn g(): int { return f(); }", api.ErrCapture},
		{api.ReqExtractVar, "a", nil, "fn f(a: int): int { return a * «(1 + 2)»; }", api.ErrSelect}, {api.ReqExtractVar, "a", nil, "fn f(a: int): int { return a * («1 + 2»); }", api.ErrCapture}, {api.ReqExtractVar, "b", nil, "var b: int; fn f(a: int): int { print «a»; return b; }", api.ErrCapture}, {api.ReqExtractVar, "b", nil, "var b: int; fn f(a: int): int { return «b»; }", api.OK},
		{api.ReqInlineVar, "", nil, "fn f(a: int): int { «»let b = a; { let a = 5; print b + a; } return b; }", api.ErrCapture}, {api.ReqExtractFn, "f", nil, "fn f(a: int): int { return «a + 1»; }", api.ErrCapture}, {api.ReqExtractFn, "a", nil, "fn f(a: int): int { return «a + 1»; }", api.OK}, {api.ReqInlineFn, "", nil, "var v: int; fn g(): int { return v; } fn f(v: int): int { return «g()» + v; }", api.ErrCapture}, {api.ReqLoop, "a", nil, "fn f(a: int): int { «»for i = 1 to a { print a; } }", api.ErrCapture}, {api.ReqLoop, "i", nil, "fn f(a: int): int { «»for i = 1 to a { print a; } }", api.ErrCapture}, {api.ReqConst, "a", nil, "fn f(a: int): int { return a + «1»; }", api.ErrCapture}, {api.ReqDead, "", nil, "var x: int; fn f(): int { «»let x = 1; return 2; }", api.OK},
		{api.ReqConst, "k", nil, strings.Join(many, "") + "«»", api.ErrSelect}, {api.ReqConst, "k", nil, "fn g(): int { return «1»; }" + strings.Join(many[1:], ""), api.ErrCapture}, {api.ReqConst, "k", nil, "fn g(): int { return «1»; }" + strings.Join(many[2:], ""), api.OK},
		{api.ReqRename, "bb", nil, "var «a»: int;" + strings.Repeat(" ", api.MaxSource-11), api.ErrLong}, {api.ReqRename, "b", nil, "var «a»: int;" + strings.Repeat(" ", api.MaxSource-11), api.OK}, {api.ReqInlineVar, "", nil, "fn f(a: int): int { «»let b = " + minus + "a; return " + minus + "b; }", api.ErrSize}, {api.ReqExtractVar, "b", nil, "fn f(a: int): int { return " + minus + minus[:17] + "«-a»; }", api.OK},
	} {
		text, from, to := mark(c.text)
		p, e := engine.Make(text, api.Request{Kind: c.kind, From: from, To: to, Name: c.name, Nums: c.nums})
		if e != c.e || e != api.OK && !reflect.DeepEqual(p, api.Plan{}) {
			t.Errorf("%d: %.80q: %d, not %d", i, c.text, e, c.e)
		}
		if e == api.OK {
			out, _ := engine.Apply(text, p)
			if _, e := check.Check(text, out, p.Cert); e != api.OK {
				t.Errorf("%d: %.80q is not accepted: %d", i, c.text, e)
			}
		}
	}
}

func TestApply(t *testing.T) {
	for i, c := range []struct {
		text  string
		edits []api.Edit
		want  string
		e     api.Errno
	}{
		{"abc", nil, "abc", api.OK}, {"abc", []api.Edit{{From: 1, To: 2, Text: "XX"}}, "aXXc", api.OK}, {"abc", []api.Edit{{From: 1, To: 9}}, "", api.ErrRange}, {"abc", []api.Edit{{From: 1, To: 2}, {From: 2, To: 2}}, "", api.ErrOrder}, {"abc", []api.Edit{{Text: strings.Repeat("x", api.MaxSource)}}, "", api.ErrLong},
	} {
		if s, e := engine.Apply(c.text, api.Plan{Edits: c.edits, Cert: []byte{9}}); s != c.want || e != c.e {
			t.Errorf("%d: %q %d", i, s, e)
		}
	}
}

// TestAllSelections: whatever is selected, what is planned is accepted.
func TestAllSelections(t *testing.T) {
	text := "rec R { x: int; } var g: R; const c = 3; fn h(a: int, b: int): int { let d = a * c; if d < 2 { return d; print 1; } let e: int; e = d; for i = 1 to e { g.x = i; } return 2 + d; } pub fn f(a: int): int { let z = a; return one(a) + h(a, 4); } fn one(q: int): int { return q - g.x; }"
	made := 0
	for from := range len(text) {
		for to := from; to <= len(text); to++ {
			if to > from && strings.ContainsAny(text[from:to], "{};") {
				break
			}
			for kind := api.ReqRename; kind <= api.ReqConst; kind++ {
				if kind > api.ReqExtractVar && kind != api.ReqExtractFn && kind != api.ReqInlineFn && kind != api.ReqConst && to > from {
					continue
				}
				for _, nums := range [][]int{nil, {0}, {1}, {1, 0}} {
					if len(nums) > 0 && kind != api.ReqSignature && kind != api.ReqDead && kind != api.ReqSplit {
						continue
					}
					p, e := engine.Make(text, api.Request{Kind: kind, From: from, To: to, Name: "w", Nums: nums})
					if e != api.OK {
						continue
					}
					made++
					out, _ := engine.Apply(text, p)
					if _, e := check.Check(text, out, p.Cert); e != api.OK {
						t.Errorf("%q by %d %v becomes %q: %d", text[from:to], kind, nums, out, e)
					}
				}
			}
		}
	}
	if made < 200 {
		t.Error("only so many plans:", made)
	}
}
