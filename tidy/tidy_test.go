package tidy_test

import (
	"math"
	"reflect"
	"slices"
	"strings"
	"testing"

	"notary/api"
	"notary/deriv"
	"notary/patch"
	"notary/right"
	"notary/term"
	"notary/tidy"
)

// mark is a text without its mark |, and where it stood.
func mark(text string) (string, int) {
	i := strings.Index(text, "|")
	return text[:i] + text[i+1:], i
}

const order, dead, invert, loop = api.ReqReorder, api.ReqDead, api.ReqInvert, api.ReqLoop

// cases: what is asked, of which text, what becomes of it, by which rule.
var cases = []struct {
	kind int
	nums []int
	text string
	want string
	rule int
}{
	{order, []int{2, 0, 1}, "|// ahead\nvar a: int; // one\n\nfn f(): int { return a + c; }\tconst c = 1; // behind", "// ahead\nconst c = 1; // one\n\nvar a: int;\tfn f(): int { return a + c; } // behind", api.PermDecls},
	{order, []int{0}, "|fn f(): int { return f(); }", "fn f(): int { return f(); }", api.PermDecls},
	{order, []int{1, 0}, "|rec R { x: S; }rec S { y: int; }", "rec S { y: int; }rec R { x: S; }", api.PermDecls},
	{dead, nil, "fn f(a: int): int { print 1; let x| = a; return a; }", "fn f(a: int): int { print 1;  return a; }", api.LetUnused},
	{dead, nil, "fn f(a: int): int { if a < 1 { let y = a; |let x: [2]int; let z = y; print z; } return a; }", "fn f(a: int): int { if a < 1 { let y = a;  let z = y; print z; } return a; }", api.LetUnused},
	{dead, []int{0}, "var a: int; |fn f(): int { return f(); } pub fn g(): int { return a; }", "var a: int;  pub fn g(): int { return a; }", api.DropDecl},
	{dead, []int{0}, "fn f(): int { return 1; } var b: int|;", "fn f(): int { return 1; } ", api.DropDecl},
	{dead, []int{1}, "fn f(): int { { |return 1; print 2; let x = 3; { print x; } } return 4; }", "fn f(): int { { return 1;  } return 4; }", api.DeadReturn},
	{dead, []int{1}, "fn f(): int { return 1 |+ 2;return 4; // x\n }", "fn f(): int { return 1 + 2; // x\n }", api.DeadReturn},
	{invert, nil, "fn f(a: bool): int { |if a { print 1; } return 1; }", "fn f(a: bool): int { if !(a) { } else { print 1; } return 1; }", api.IfInvert},
	{invert, nil, "fn f(a: bool): int { if a { if a && !a {| print 1; } else { print 2; } } else { print 3; } return 1; }", "fn f(a: bool): int { if a { if !(a && !a) { print 2; } else { print 1; } } else { print 3; } return 1; }", api.IfInvert},
	{invert, nil, "fn f(a: bool): int { if (a){| }else{ } return 1; }", "fn f(a: bool): int { if !(a) { } else { } return 1; }", api.IfInvert},
	{loop, nil, "fn f(n: int): int { for i = 1 to n |{ print i; } return n; }", "fn f(n: int): int { { let k = 1; let k_ = n; while k < k_ { let i = k; { print i; } k = k + 1; } } return n; }", api.ForWhile},
	{loop, nil, "fn f(n: int): int { for i = n to f(n) { for j = i + 1 to (3) { |i = j; n = n + 1; } } return n; }", "fn f(n: int): int { for i = n to f(n) { { let k = i + 1; let k_ = 3; while k < k_ { let j = k; { i = j; n = n + 1; } k = k + 1; } } } return n; }", api.ForWhile},
}

func TestDrafts(t *testing.T) {
	for _, c := range cases {
		text, from := mark(c.text)
		l, d, e := tidy.Draft(text, api.Request{Kind: c.kind, From: from, To: -7, Name: "k", Nums: c.nums})
		if e != api.OK || len(l) != 1 || d.K != api.DerSeq || len(d.L) != 1 || d.L[0].K != api.DerStep || d.L[0].Step.Rule != c.rule || d.L[0].Step.Back {
			t.Errorf("%q: %v %v %d", c.text, l, d, e)
			continue
		}
		out, e := patch.Apply(text, l)
		if e != api.OK || out != c.want {
			t.Errorf("%q: %q %d", c.text, out, e)
		}
		_, m, _, _ := right.Read(text)
		_, n, at, e := right.Read(out)
		x, _, _, _, e2 := deriv.Run(m, d)
		if e != api.OK || e2 != api.OK || !term.Same(x, n) {
			t.Errorf("%q became %q: %d %d, %d", c.text, out, at, e, e2)
		}
	}
}

// TestInvertedTwice: the blocks are those that were, and the condition is twice turned round.
func TestInvertedTwice(t *testing.T) {
	for _, c := range cases {
		if c.kind != invert {
			continue
		}
		text, from := mark(c.text)
		l, d, _ := tidy.Draft(text, api.Request{Kind: invert, From: from})
		out, _ := patch.Apply(text, l)
		l, _, e := tidy.Draft(out, api.Request{Kind: invert, From: l[0].From})
		again, _ := patch.Apply(out, l)
		_, m, _, _ := right.Read(text)
		_, n, _, e2 := right.Read(again)
		path := d.L[0].Step.Path
		a, _ := term.At(m, path)
		b, ok := term.At(n, path)
		not := func(x api.Term) api.Term { return api.Term{K: api.KUn, N: api.OpNot, L: []api.Term{x}} }
		if e != api.OK || e2 != api.OK || !ok || b.K != api.KIf || !term.Same(b.L[0], not(not(a.L[0]))) || !term.Same(b.L[1], a.L[1]) || !term.Same(b.L[2], a.L[2]) {
			t.Errorf("%q became %q", text, again)
		}
	}
}

func TestExamples(t *testing.T) {
	text := "fn f(n: int): int { for i = 1 to n { print i; } }"
	l, d, e := tidy.Draft(text, api.Request{Kind: loop, From: 20, Name: "k"})
	_, m, _, _ := right.Read("fn f(n: int): int { { let k = 1; let k_ = n; while k < k_ { let i = k; { print i; } k = k + 1; } } }")
	if e != api.OK || !slices.Equal(l, []api.Edit{{From: 20, To: 47, Text: "{ let k = 1; let k_ = n; while k < k_ { let i = k; { print i; } k = k + 1; } }"}}) || !reflect.DeepEqual(d.L[0].Step, api.Step{Rule: api.ForWhile, Path: []int{0, 2, 0}, Term: m.L[0].L[2].L[0]}) {
		t.Error(l, d, e)
	}
	nums := []int{1, 0}
	_, d, _ = tidy.Draft("var a: int; var b: int;", api.Request{Kind: order, Nums: nums})
	nums[0] = 9
	if !slices.Equal(d.L[0].Step.Nums, []int{1, 0}) {
		t.Error("the request's numbers are kept")
	}
}

func TestErrors(t *testing.T) {
	for i, c := range []struct {
		kind int
		name string
		nums []int
		text string
		e    api.Errno
	}{
		{api.ReqRename, "b", nil, "|&", api.ErrKind}, {0, "", nil, "|&", api.ErrKind}, {api.ReqSplit, "", nil, "|&", api.ErrKind}, {api.ReqConst, "b", nil, "|&", api.ErrKind}, {-1, "", nil, "|&", api.ErrKind}, {99, "", nil, "|&", api.ErrKind},
		{order, "", nil, "|&", api.ErrChar}, {dead, "", []int{7}, "|fn", api.ErrToken}, {loop, "", nil, "|fn f(): int { return x; }", api.ErrName}, {invert, "", nil, "|fn f(): int { return true; }", api.ErrType}, {loop, "", nil, "|fn f(): int { return true; }", api.ErrType},
		{dead, "", []int{2}, "|var a: int;", api.ErrRange}, {dead, "", []int{0, 0}, "|var a: int;", api.ErrRange}, {dead, "", []int{0, 1}, "|var a: int;", api.ErrRange}, {dead, "", []int{-1}, "|", api.ErrRange}, {dead, "", []int{math.MaxInt}, "|", api.ErrRange},
		{loop, "", nil, "|", api.ErrName}, {loop, "to", nil, "|", api.ErrName}, {loop, strings.Repeat("a", 16), nil, "|", api.ErrName}, {loop, strings.Repeat("a", 15), nil, "|", api.ErrSelect}, {loop, "1", nil, "fn f(): int { |for i = 1 to 2 { } }", api.ErrName}, {invert, "1", nil, "fn f(): int { |if true { } }", api.OK},
		{order, "", nil, "|", api.ErrSelect}, {order, "", []int{0}, "|", api.ErrSelect}, {order, "", nil, "| // x", api.ErrSelect}, {dead, "", nil, "fn f(): int { |print 1; let x = 1; }", api.ErrSelect}, {dead, "", []int{0}, "var a: int;| var b: int;", api.ErrSelect}, {dead, "", []int{0}, "|", api.ErrSelect}, {dead, "", []int{1}, "fn f(): int { |print 1; return 2; print 3; }", api.ErrSelect}, {dead, "", []int{1}, "fn f(): int { print 1; |return 2; }", api.ErrSelect}, {dead, "", []int{1}, "fn f(): int { { |return 2; } print 1; }", api.ErrSelect}, {invert, "", nil, "fn f(): int { |while true { if true { } } }", api.ErrSelect}, {loop, "k", nil, "fn f(): int { |while true { for i = 1 to 2 { } } }", api.ErrSelect},
		{order, "", nil, "|var a: int;", api.ErrSide}, {order, "", []int{0, 0}, "|var a: int; var b: int;", api.ErrSide}, {order, "", []int{0, 2}, "|var a: int; var b: int;", api.ErrSide}, {order, "", []int{0, 1, 2}, "|var a: int; var b: int;", api.ErrSide}, {order, "", []int{-1, 0}, "|var a: int; var b: int;", api.ErrSide},
		{dead, "", nil, "fn f(): int { |let x = 1; return x; }", api.ErrSide}, {dead, "", nil, "fn f(): int { |let x = f(); return 1; }", api.ErrSide}, {dead, "", nil, "fn f(): int { |let x: int; x = 1; }", api.ErrSide}, {dead, "", []int{0}, "|pub fn f(): int { }", api.ErrSide}, {dead, "", []int{0}, "|var a: int; fn f(): int { return a; }", api.ErrSide}, {dead, "", []int{0}, "|rec R { x: int; } fn f(a: R): int { }", api.ErrSide},
	} {
		text, from := mark(c.text)
		l, d, e := tidy.Draft(text, api.Request{Kind: c.kind, From: from, Name: c.name, Nums: c.nums})
		if e != c.e || e != api.OK && (len(l) != 0 || !reflect.DeepEqual(d, api.Deriv{})) {
			t.Errorf("%d: %q: %d, not %d", i, c.text, e, c.e)
		}
	}
	for _, p := range []int{-1, math.MinInt, math.MaxInt, 999} {
		for kind := range 14 {
			for _, nums := range [][]int{nil, {0}, {1}} {
				tidy.Draft("fn f(): int { let x = 1; return x; }", api.Request{Kind: kind, From: p, Name: "b", Nums: nums})
			}
		}
	}
}
