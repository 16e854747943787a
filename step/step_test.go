package step_test

import (
	"math"
	"reflect"
	"slices"
	"strings"
	"testing"

	"notary/api"
	"notary/exec"
	"notary/link"
	"notary/right"
	"notary/step"
	"notary/term"
)

type T = api.Term

func module(t *testing.T, text string) T {
	t.Helper()
	_, m, at, e := right.Read(text)
	if e != api.OK {
		t.Fatalf("%q: %d %d", text[at:], at, e)
	}
	return m
}

const head = "var g: int; rec R { x: int; y: bool; } const c = 3; fn sub(p: int, q: int): int { return p - q; } fn next(): int { g = g + 1; return g; } "

// local: in head, and a public main whose block is said, becomes one with another block; the path leads on from the block.
var local = []struct {
	rule int
	l, r string
	path []int
	nums []int
}{
	{api.AddComm, "return a + b;", "return b + a;", []int{0, 0}, nil}, {api.MulComm, "return a * next();", "return next() * a;", []int{0, 0}, nil}, {api.AddAssoc, "return a + b + g;", "return a + (b + g);", []int{0, 0}, nil}, {api.MulAssoc, "return a * b * g;", "return a * (b * g);", []int{0, 0}, nil}, {api.AddZero, "return a + 0;", "return a;", []int{0, 0}, nil}, {api.MulOne, "return a * 1;", "return a;", []int{0, 0}, nil}, {api.MulZero, "return a * 0;", "return 0;", []int{0, 0}, nil}, {api.SubSelf, "return a - a;", "return 0;", []int{0, 0}, nil}, {api.SubNeg, "return a - b;", "return a + -b;", []int{0, 0}, nil}, {api.NegNeg, "return - -a;", "return a;", []int{0, 0}, nil}, {api.Distrib, "return a * (b + g);", "return a * b + a * g;", []int{0, 0}, nil},
	{api.NotNot, "print !!(a < b);", "print a < b;", []int{0, 0}, nil}, {api.AndComm, "if t && a < b { print 1; }", "if a < b && t { print 1; }", []int{0, 0}, nil}, {api.OrComm, "while t || a < 0 { return 1; }", "while a < 0 || t { return 1; }", []int{0, 0}, nil}, {api.AndAssoc, "print t && t && a < b;", "print t && (t && a < b);", []int{0, 0}, nil}, {api.OrAssoc, "print t || t || a < b;", "print t || (t || a < b);", []int{0, 0}, nil}, {api.DeMorganAnd, "print !(t && a < b);", "print !t || !(a < b);", []int{0, 0}, nil}, {api.DeMorganOr, "print !(t || a < b);", "print !t && !(a < b);", []int{0, 0}, nil}, {api.AndTrue, "print true && t;", "print t;", []int{0, 0}, nil}, {api.OrFalse, "print false || t;", "print t;", []int{0, 0}, nil}, {api.AndFalse, "print false && t;", "print false;", []int{0, 0}, nil}, {api.OrTrue, "print true || t;", "print true;", []int{0, 0}, nil}, {api.EqComm, "print a == next();", "print next() == a;", []int{0, 0}, nil}, {api.NeComm, "print a != b;", "print b != a;", []int{0, 0}, nil}, {api.LessFlip, "print a < b;", "print b > a;", []int{0, 0}, nil}, {api.LeastFlip, "print a <= b;", "print b >= a;", []int{0, 0}, nil}, {api.NotEq, "print !(a == b);", "print a != b;", []int{0, 0}, nil}, {api.NotLess, "print !(a < b);", "print a >= b;", []int{0, 0}, nil}, {api.NotLeast, "print !(a <= b);", "print a > b;", []int{0, 0}, nil},
	{api.Fold, "print sub(2 + 3, 1);", "print sub(5, 1);", []int{0, 0, 0}, nil}, {api.ConstRef, "print a + c;", "print a + 3;", []int{0, 0, 1}, nil}, {api.FieldMake, "print new R(a, t).y;", "print t;", []int{0, 0}, nil}, {api.IndexList, "print [a, b][1];", "print b;", []int{0, 0}, nil},
	{api.IfInvert, "if t { print 1; } else { print 2; }", "if !t { print 2; } else { print 1; }", []int{0}, nil}, {api.IfTrue, "if true { print 1; }", "{ print 1; }", []int{0}, nil}, {api.IfFalse, "if false { print 1; }", "{ }", []int{0}, nil}, {api.IfSame, "if t { print 1; } else { print 1; }", "{ print 1; }", []int{0}, nil}, {api.WhileFalse, "{ while false { print 1; } }", "{ { } }", []int{0, 0}, nil}, {api.WhileUnroll, "while a < b { a = a + 1; }", "if a < b { { a = a + 1; } while a < b { a = a + 1; } }", []int{0}, nil}, {api.ForWhile, "for i = a to b { print i; }", "{ let p = a; let q = b; while p < q { let i = p; { print i; } p = p + 1; } }", []int{0}, nil},
	{api.DeadReturn, "print 1; return 2; print 3;", "print 1; return 2;", nil, []int{1}}, {api.BlockFlat, "print 1; { let z = a; } print a;", "print 1; let z = a; print a;", nil, []int{1}}, {api.Swap, "a = 1; b = 2;", "b = 2; a = 1;", nil, []int{0}}, {api.SetSelf, "print 1; a = a; g = 2;", "print 1; { } g = 2;", []int{1}, nil},
	{api.LetUnused, "let z = a; print b;", "print b;", nil, []int{0}}, {api.LetUnused, "print b; if t { let z: R; return 1; }", "print b; if t { return 1; }", []int{1, 1}, []int{0}}, {api.LetSubst, "let y = b; let z = a + y; print z; print z;", "let y = b; print a + y; print a + y;", nil, []int{1}}, {api.LetNext, "let z = b; print z + next(); b = 1;", "print b + next(); b = 1;", nil, []int{0}}, {api.SplitLet, "let y = t; let z = [y, t]; print z[0];", "let y = t; let z: [2]bool; z = [y, t]; print z[0];", nil, []int{1}}, {api.SplitLet, "for i = 1 to 2 { let y = i < a; }", "for i = 1 to 2 { let y: bool; y = i < a; }", []int{0, 2}, []int{0}},
	{api.CallUnfold, "return sub(a, g) * 2;", "return (a - g) * 2;", []int{0, 0, 0}, nil},
}

func main(body string) string {
	return head + "pub fn main(a: int, b: int, t: bool): int { " + body + " }"
}

// both checks a step, and the one that undoes it.
func both(t *testing.T, m, n T, s api.Step, factor uint64, pairs []api.Pair) {
	t.Helper()
	kept := term.Bare(m)
	x, f, e := step.Apply(m, s)
	if e != api.OK || !term.Same(x, n) || f != factor || !term.Same(m, kept) {
		t.Fatalf("rule %d: %v %d %d, not %d", s.Rule, x, f, e, factor)
	}
	if p := step.Pairs(m, s); !slices.Equal(p, pairs) {
		t.Errorf("rule %d: %v", s.Rule, p)
	}
	b, ok := step.Back(m, s)
	there, _ := term.At(m, s.Path)
	if !ok || b.Rule != s.Rule || b.Back == s.Back || !slices.Equal(b.Path, s.Path) || !slices.Equal(b.Nums, s.Nums) || !term.Same(b.Term, there) {
		t.Fatalf("rule %d back: %v", s.Rule, b)
	}
	y, f, e := step.Apply(x, b)
	if e != api.OK || !term.Same(y, m) || f != factor {
		t.Errorf("rule %d undone: %d %d", s.Rule, f, e)
	}
	var back []api.Pair
	for _, p := range step.Pairs(x, b) {
		back = append(back, api.Pair{A: p.B, B: p.A})
	}
	slices.SortFunc(back, func(a, b api.Pair) int { return a.A - b.A })
	if !slices.Equal(back, pairs) {
		t.Errorf("rule %d back: %v", s.Rule, back)
	}
}

func same(n int) []api.Pair {
	var l []api.Pair
	for i := range n {
		l = append(l, api.Pair{A: i, B: i})
	}
	return l
}

func TestLocalRules(t *testing.T) {
	seen := map[int]bool{}
	for _, c := range local {
		m, n := module(t, main(c.l)), module(t, main(c.r))
		path := append([]int{5, 2}, c.path...)
		there, _ := term.At(m, path)
		then, _ := term.At(n, path)
		s := api.Step{Rule: c.rule, Path: path, Nums: c.nums, Term: then}
		both(t, m, n, s, uint64(2+term.Size(there)+term.Size(then)), same(6))
		b, _ := step.Back(m, s)
		both(t, n, m, b, uint64(2+term.Size(there)+term.Size(then)), same(6))
		seen[c.rule] = true
		for _, nums := range [][]int{append(slices.Clone(c.nums), 0), {-1}, {99}, {0, 0}, {math.MaxInt}} {
			s.Nums = nums
			if x, f, e := step.Apply(m, s); e != api.ErrSide || f != 0 || !reflect.DeepEqual(x, T{}) {
				t.Errorf("rule %d with %v: %d", c.rule, nums, e)
			}
		}
		s.Nums = c.nums
		s.Back = true
		turns := slices.Contains([]int{api.AddComm, api.MulComm, api.AndComm, api.OrComm, api.EqComm, api.NeComm, api.Swap}, c.rule)
		if _, _, e := step.Apply(m, s); e != api.ErrSide && !turns || turns && e != api.OK {
			t.Errorf("rule %d the wrong way round: %d", c.rule, e)
		}
	}
	for rule := api.AddComm; rule <= api.CallUnfold; rule++ {
		if !seen[rule] {
			t.Errorf("no step of the rule %d", rule)
		}
	}
}

func TestRulesOfTheWhole(t *testing.T) {
	text := "var g: int; fn f(p: int, q: int): int { return p; } pub fn main(): int { return f(g, 1 + 2) + f(1, g); } const c = 1; "
	m := module(t, text)
	n := module(t, "pub fn main(): int { return f(g, 1 + 2) + f(1, g); } var g: int; const c = 1; fn f(p: int, q: int): int { return p; }")
	turned := []api.Pair{{A: 0, B: 1}, {A: 1, B: 3}, {A: 2, B: 0}, {A: 3, B: 2}}
	both(t, m, n, api.Step{Rule: api.PermDecls, Nums: []int{2, 0, 3, 1}, Term: n}, 1, turned)
	back := []api.Pair{{A: 0, B: 2}, {A: 1, B: 0}, {A: 2, B: 3}, {A: 3, B: 1}}
	both(t, n, m, api.Step{Rule: api.PermDecls, Back: true, Nums: []int{2, 0, 3, 1}, Term: m}, 1, back)
	without := module(t, strings.Replace(text, "const c = 1; ", "", 1))
	both(t, m, without, api.Step{Rule: api.DropDecl, Nums: []int{3}, Term: without}, 1, same(3))
	both(t, without, m, api.Step{Rule: api.DropDecl, Back: true, Nums: []int{3}, Term: m}, 1, same(3))
	first := module(t, "const c = 1; "+strings.Replace(text, "const c = 1; ", "", 1))
	both(t, without, first, api.Step{Rule: api.DropDecl, Back: true, Nums: []int{0}, Term: first}, 1, []api.Pair{{A: 0, B: 1}, {A: 1, B: 2}, {A: 2, B: 3}})
	perm := module(t, "var g: int; fn f(q: int, p: int): int { return p; } pub fn main(): int { return f(1 + 2, g) + f(g, 1); } const c = 1; ")
	both(t, m, perm, api.Step{Rule: api.PermParams, Nums: []int{1, 1, 0}, Term: perm}, 1, same(4))
	both(t, perm, m, api.Step{Rule: api.PermParams, Back: true, Nums: []int{1, 1, 0}, Term: m}, 1, same(4))
	drop := module(t, "var g: int; fn f(p: int): int { return p; } pub fn main(): int { return f(g) + f(1); } const c = 1; ")
	both(t, m, drop, api.Step{Rule: api.DropParam, Nums: []int{1, 1}, Term: drop}, 6, same(4))
	both(t, drop, m, api.Step{Rule: api.DropParam, Back: true, Nums: []int{1, 1}, Term: m}, 6, same(4))
}

func TestExample(t *testing.T) {
	m := module(t, "fn f(a: int): int { return a + 0; }")
	x, f, e := step.Apply(m, api.Step{Rule: api.AddZero, Path: []int{0, 2, 0, 0}, Term: T{K: api.KLocal}})
	if e != api.OK || f != 6 || !term.Same(x, module(t, "fn f(a: int): int { return a; }")) {
		t.Error(x, f, e)
	}
}

func TestErrors(t *testing.T) {
	m := module(t, "var g: int; fn f(a: int): int { return a + 0; } fn e(): int { return e(); }")
	a := T{K: api.KLocal}
	path := []int{1, 2, 0, 0}
	named := module(t, "fn f(): int { return 1 + 0; }")
	named.L[0].S = "f"
	deep := func(n int) T {
		x := T{K: api.KNum}
		for range n {
			x = T{K: api.KUn, N: api.OpNeg, L: []T{x}}
		}
		return x
	}
	list := func(n int) T {
		b := T{K: api.KBlock, L: []T{{K: api.KReturn, L: []T{{K: api.KBin, N: api.OpAdd, L: []T{{K: api.KNum, N: 7}, {K: api.KNum}}}}}}}
		for range n {
			b.L = append(b.L, T{K: api.KBlock})
		}
		return T{K: api.KModule, L: []T{{K: api.KFn, L: []T{{K: api.KParams}, {K: api.KInt}, b}}}}
	}
	zero := []int{0, 2, 0, 0}
	for i, c := range []struct {
		m T
		s api.Step
		e api.Errno
	}{
		{T{}, api.Step{}, api.ErrPlace}, {named, api.Step{Rule: 99}, api.ErrPlace}, {T{K: api.KModule, From: 1}, api.Step{}, api.ErrPlace},
		{list(api.MaxNodes - 8), api.Step{Rule: 99}, api.ErrSize}, {list(api.MaxNodes - 9), api.Step{Rule: 99}, api.ErrRule}, {list(api.MaxNodes - 9), api.Step{Rule: api.AddZero, Path: zero, Term: T{K: api.KNum, N: 7}}, api.OK}, {list(api.MaxNodes - 9), api.Step{Rule: api.NegNeg, Back: true, Path: zero, Term: deep(2)}, api.ErrSide},
		{list(api.MaxNodes - 9), api.Step{Rule: api.AddZero, Back: true, Path: zero, Term: T{K: api.KBin, N: api.OpAdd, L: []T{list(0).L[0].L[2].L[0].L[0], {K: api.KNum}}}}, api.ErrSize}, {list(api.MaxNodes - 11), api.Step{Rule: api.AddZero, Back: true, Path: zero, Term: T{K: api.KBin, N: api.OpAdd, L: []T{list(0).L[0].L[2].L[0].L[0], {K: api.KNum}}}}, api.OK},
		{module(t, "fn f(): int { return 1; }"), api.Step{Rule: api.MulZero, Back: true, Path: zero, Term: T{K: api.KBin, N: api.OpMul, L: []T{deep(9), {K: api.KNum}}}}, api.ErrSide}, {module(t, "fn f(): int { return 0; }"), api.Step{Rule: api.MulZero, Back: true, Path: zero, Term: T{K: api.KBin, N: api.OpMul, L: []T{deep(58), {K: api.KNum}}}}, api.OK}, {module(t, "fn f(): int { return 0; }"), api.Step{Rule: api.MulZero, Back: true, Path: zero, Term: T{K: api.KBin, N: api.OpMul, L: []T{deep(59), {K: api.KNum}}}}, api.ErrSize},
		{m, api.Step{}, api.ErrRule}, {m, api.Step{Rule: -1, Path: path, Term: a}, api.ErrRule}, {m, api.Step{Rule: api.DropParam + 1, Path: []int{77}}, api.ErrRule}, {m, api.Step{Rule: math.MaxInt}, api.ErrRule}, {m, api.Step{Rule: math.MinInt}, api.ErrRule},
		{m, api.Step{Rule: api.AddZero, Path: []int{1, 2, 0, 9}, Term: a}, api.ErrPath}, {m, api.Step{Rule: api.AddZero, Path: []int{1, 2, 0, -1}, Term: a}, api.ErrPath}, {m, api.Step{Rule: api.AddZero, Term: a}, api.ErrPath}, {m, api.Step{Rule: api.AddZero, Path: []int{1}, Term: a}, api.ErrPath}, {m, api.Step{Rule: api.AddZero, Path: []int{0, 0}, Term: a}, api.ErrPath}, {m, api.Step{Rule: api.PermDecls, Path: []int{0}, Nums: []int{0, 1, 2}, Term: m}, api.ErrPath}, {m, api.Step{Rule: api.DropParam, Path: path}, api.ErrPath}, {m, api.Step{Rule: api.AddZero, Path: []int{9, 9}, Term: a}, api.ErrPath},
		{m, api.Step{Rule: api.AddZero, Path: path, Term: T{K: api.KLocal, N: 1}}, api.ErrSide}, {m, api.Step{Rule: api.MulOne, Path: path, Term: a}, api.ErrSide}, {m, api.Step{Rule: api.AddZero, Path: []int{1, 2, 0}, Term: a}, api.ErrSide}, {m, api.Step{Rule: api.AddZero, Path: path, Nums: []int{0}, Term: a}, api.ErrSide}, {m, api.Step{Rule: api.PermDecls, Nums: []int{0, 1}, Term: m}, api.ErrSide}, {m, api.Step{Rule: api.DropDecl, Nums: []int{0}, Term: m}, api.ErrSide}, {m, api.Step{Rule: api.CallUnfold, Path: []int{2, 2, 0, 0}, Term: T{K: api.KCall, N: 2}}, api.ErrSide}, {m, api.Step{Rule: api.SplitLet, Path: []int{1, 2}, Nums: []int{0}, Term: T{}}, api.ErrSide},
		{m, api.Step{Rule: api.AddZero, Path: path, Term: T{K: api.KLocal, S: "a"}}, api.ErrSide}, {m, api.Step{Rule: api.AddZero, Path: path, Term: T{K: api.KLocal, From: 1}}, api.ErrMeaning}, {m, api.Step{Rule: api.MulZero, Back: true, Path: append(slices.Clone(path), 1), Term: T{K: api.KBin, N: api.OpMul, L: []T{{K: api.KLocal, N: 1}, {K: api.KNum}}}}, api.ErrMeaning}, {m, api.Step{Rule: api.NotNot, Back: true, Path: path, Term: T{K: api.KUn, N: api.OpNot, L: []T{{K: api.KUn, N: api.OpNot, L: []T{m.L[1].L[2].L[0].L[0]}}}}}, api.ErrMeaning}, {m, api.Step{Rule: api.DropDecl, Back: true, Nums: []int{3}, Term: T{K: api.KModule, L: append(slices.Clone(m.L), T{K: api.KNum})}}, api.ErrMeaning},
	} {
		x, f, e := step.Apply(c.m, c.s)
		if e != c.e || e != api.OK && (f != 0 || !reflect.DeepEqual(x, T{})) {
			t.Errorf("%d: %d, not %d", i, e, c.e)
		}
		b, ok := step.Back(c.m, c.s)
		if p := step.Pairs(c.m, c.s); ok != (c.e == api.OK) || !ok && !reflect.DeepEqual(b, api.Step{}) || (len(p) > 0) != ok {
			t.Errorf("%d: pairs %v, back %v", i, p, ok)
		}
	}
}

// TestEffectsAreThoseAhead: a condition is asked of the module that is there ahead of the step.
func TestEffectsAreThoseAhead(t *testing.T) {
	for _, c := range []struct {
		body string
		e    api.Errno
	}{{"return 1;", api.OK}, {"g = 2; return 1;", api.ErrSide}} {
		m := module(t, "var g: int; fn w(): int { "+c.body+" } fn f(): int { return g + w(); }")
		n := module(t, "var g: int; fn w(): int { "+c.body+" } fn f(): int { return w() + g; }")
		for _, back := range []bool{false, true} {
			if _, _, e := step.Apply(m, api.Step{Rule: api.AddComm, Back: back, Path: []int{2, 2, 0, 0}, Term: n.L[2].L[2].L[0].L[0]}); e != c.e {
				t.Errorf("%q: %d", c.body, e)
			}
		}
	}
}

// TestSameRuns: what is public does the same behind a step, within the factor.
func TestSameRuns(t *testing.T) {
	for _, c := range local {
		m, n := module(t, main(c.l)), module(t, main(c.r))
		path := append([]int{5, 2}, c.path...)
		then, _ := term.At(n, path)
		_, f, _ := step.Apply(m, api.Step{Rule: c.rule, Path: path, Nums: c.nums, Term: then})
		for _, a := range []int64{0, 1, 3} {
			args := []api.Value{{N: a}, {N: 2}, {N: a & 1}}
			run := func(x T, fuel int) (api.Outcome, int) {
				v, s, _ := exec.Call(x, exec.Start(x, nil, fuel), 5, args)
				if s.Kind == 0 {
					s.Kind, s.N = api.RunDone, v.N
				}
				return api.Outcome{Kind: s.Kind, N: s.N, Trace: s.Trace}, fuel - s.Fuel
			}
			o, used := run(m, 3000)
			p, again := run(n, 3000)
			if !link.Agree(o, p) || o.Kind == api.RunDry || uint64(again) > f*uint64(used+1) || uint64(used) > f*uint64(again+1) {
				t.Errorf("%q to %q: %v %d, %v %d", c.l, c.r, o, used, p, again)
			}
			for fuel := range used {
				if q, _ := run(n, fuel); !link.Agree(o, q) {
					t.Errorf("%q to %q with %d", c.l, c.r, fuel)
				}
			}
		}
	}
}
