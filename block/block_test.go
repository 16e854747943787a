package block_test

import (
	"math"
	"reflect"
	"slices"
	"testing"

	"notary/api"
	"notary/block"
	"notary/exec"
	"notary/right"
	"notary/term"
	"notary/value"
)

type T = api.Term

const prefix = "var g: int; var h: [2]int; rec R { x: int; y: bool; } const c = 3; fn writes(): int { g = g + 7; return 1; } fn prints(k: int): int { print k; return k; } fn none(): int { return 4; } fn odd(k: int): bool { print k; return k % 2 == 1; } "

// stmts reads two statements, which may name a: int, b: bool, e: [2]int, r: R and i: int.
func stmts(t *testing.T, l, r string) (T, T, T) {
	t.Helper()
	text := prefix
	for i, s := range []string{l, r} {
		text += "fn main" + string(rune('0'+i)) + "(a: int, b: bool, e: [2]int, r: R, i: int): int { " + s + " print a; print b; print e[0]; print e[1]; print r.x; print i; return g; } "
	}
	_, m, at, e := right.Read(text)
	if e != api.OK {
		t.Fatalf("%q: %d %d", text[at:], at, e)
	}
	return m, m.L[len(m.L)-2].L[2].L[0], m.L[len(m.L)-1].L[2].L[0]
}

// sameRuns asks whether the two statements do the same, within so many times as much fuel.
func sameRuns(t *testing.T, m, l, r T) bool {
	t.Helper()
	for _, a := range []int64{-3, 0, 1, 2, 5} {
		s := exec.Start(m, []int64{4, a, 0, 9}, 9000)
		s.Globals[0].N = a + 1
		args := []api.Value{{N: a}, {N: a & 1}, {L: []api.Value{{N: 8}, {N: a}}}, {L: []api.Value{{N: 6}, {N: 1}}}, {N: 1}}
		v, p, e := exec.Call(m, s, len(m.L)-2, args)
		w, q, f := exec.Call(m, s, len(m.L)-1, args)
		if e != api.OK || f != api.OK {
			t.Fatal(e, f)
		}
		n, k := 9000-p.Fuel, 9000-q.Fuel
		times := 2 + term.Size(l) + term.Size(r)
		p.Fuel, q.Fuel = 0, 0
		if !value.Same(v, w) || !reflect.DeepEqual(p, q) || n > (k+1)*times || k > (n+1)*times {
			return false
		}
	}
	return true
}

// changed is all terms that are t but for one thing.
func changed(t T) []T {
	var out []T
	for _, p := range term.Paths(t) {
		for _, change := range []func(x *T){func(x *T) { x.K = api.KExt }, func(x *T) { x.N += 100 }, func(x *T) { x.S = "s" }, func(x *T) { x.L = append(slices.Clone(x.L), T{K: api.KPrint, L: []T{{K: api.KNum}}}) }} {
			x, _ := term.At(t, p)
			change(&x)
			y, _ := term.Put(t, p, x)
			out = append(out, y)
		}
	}
	return out
}

// cases: of which part of the left side, and whether, a rule holds.
var cases = []struct {
	rule  int
	l, r  string
	i     int
	holds bool
}{
	{api.BlockFlat, "{ { let z = 1; } print a; }", "{ let z = 1; print a; }", 0, true}, {api.BlockFlat, "{ let q = a; { let z = q; let y: int; z = y; } print q; for k = q to 9 { print k; print i; } }", "{ let q = a; let z = q; let y: int; z = y; print q; for k = q to 9 { print k; print i; } }", 1, true}, {api.BlockFlat, "{ print 1; { print 2; return 3; } print 4; }", "{ print 1; print 2; return 3; print 4; }", 1, true}, {api.BlockFlat, "{ { } { } }", "{ { } }", 0, true}, {api.BlockFlat, "{ { } { } }", "{ { } }", 1, true}, {api.BlockFlat, "{ { { let z = 1; print z; } } let y = a; print y; }", "{ { let z = 1; print z; } let y = a; print y; }", 0, true}, {api.BlockFlat, "{ { let z = a; } { let y = a; print y; } print a; }", "{ let z = a; { let y = a; print y; } print a; }", 0, true},
	{api.BlockFlat, "{ { let z = 1; } print a; }", "{ let z = 1; print z; }", 0, false}, {api.BlockFlat, "{ { let z = 1; } print a; }", "{ print a; }", 0, false}, {api.BlockFlat, "{ print 1; { print 2; } }", "{ print 1; print 2; }", 0, false}, {api.BlockFlat, "{ print 1; { print 2; } }", "{ print 2; print 1; }", 1, false}, {api.BlockFlat, "{ if b { print 1; } }", "{ print 1; }", 0, false}, {api.BlockFlat, "{ { print 1; } }", "{ print 1; }", 1, false}, {api.BlockFlat, "{ { print 1; } }", "{ print 1; }", -1, false}, {api.BlockFlat, "if b { { print 1; } }", "{ print 1; }", 1, false},
	{api.DeadReturn, "{ print 1; return 2; print 3; let z = 4; print z; }", "{ print 1; return 2; }", 1, true}, {api.DeadReturn, "{ return 2; return 3; }", "{ return 2; }", 0, true}, {api.DeadReturn, "{ return 2; }", "{ return 2; }", 0, true}, {api.DeadReturn, "{ let z = a; return z; do writes(); }", "{ let z = a; return z; }", 1, true},
	{api.DeadReturn, "{ print 1; return 2; print 3; }", "{ print 1; }", 0, false}, {api.DeadReturn, "{ print 1; return 2; print 3; }", "{ print 1; return 2; print 3; }", 1, false}, {api.DeadReturn, "{ print 1; return 2; print 3; }", "{ print 1; return 2; }", 2, false}, {api.DeadReturn, "{ { return 2; } print 3; }", "{ { return 2; } }", 0, false}, {api.DeadReturn, "{ return 1; print 3; }", "{ return 2; }", 0, false}, {api.DeadReturn, "{ return 1; }", "{ }", 0, false},
	{api.Swap, "{ a = 1; i = 2; print a; }", "{ i = 2; a = 1; print a; }", 0, true}, {api.Swap, "{ print 1; a = a + g; i = i * i; }", "{ print 1; i = i * i; a = a + g; }", 1, true}, {api.Swap, "{ let z = 1; z = a; i = 2; print z; }", "{ let z = 1; i = 2; z = a; print z; }", 1, true}, {api.Swap, "{ e = [a, 1]; r = new R(i, b); }", "{ r = new R(i, b); e = [a, 1]; }", 0, true},
	{api.Swap, "{ a = 1; a = 2; }", "{ a = 2; a = 1; }", 0, false}, {api.Swap, "{ print 2; a = 1; }", "{ a = 1; print 2; }", 0, false}, {api.Swap, "{ while b { } a = 1; }", "{ a = 1; while b { } }", 0, false}, {api.Swap, "{ a = i; i = 2; }", "{ i = 2; a = i; }", 0, false}, {api.Swap, "{ a = 1; i = a; }", "{ i = a; a = 1; }", 0, false}, {api.Swap, "{ a = 1; i = none(); }", "{ i = none(); a = 1; }", 0, false}, {api.Swap, "{ a = read; i = 1; }", "{ i = 1; a = read; }", 0, false}, {api.Swap, "{ e[0] = 1; i = 2; }", "{ i = 2; e[0] = 1; }", 0, false}, {api.Swap, "{ a = 1; e[1] = 2; }", "{ e[1] = 2; a = 1; }", 0, false}, {api.Swap, "{ g = 1; i = 2; }", "{ i = 2; g = 1; }", 0, false}, {api.Swap, "{ a = 1; g = 2; }", "{ g = 2; a = 1; }", 0, false}, {api.Swap, "{ a = 1; i = 2; }", "{ a = 1; i = 2; }", 0, false}, {api.Swap, "{ a = 1; i = 2; }", "{ i = 2; a = 1; }", 1, false}, {api.Swap, "{ a = 1; print 2; }", "{ print 2; a = 1; }", 0, false}, {api.Swap, "{ a = 1; i = 2; b = true; }", "{ a = 1; b = true; i = 2; }", 0, false},
}

func TestHolds(t *testing.T) {
	for _, c := range cases {
		m, l, r := stmts(t, c.l, c.r)
		for rule := -1; rule <= api.DropParam+2; rule++ {
			if rule != c.rule && c.holds || rule == api.SetSelf {
				if rule != api.DeadReturn && rule != api.Swap && block.Holds(rule, []int{c.i}, l, r) {
					t.Errorf("%q to %q by %d", c.l, c.r, rule)
				}
			}
		}
		if block.Holds(c.rule, []int{c.i}, l, r) != c.holds {
			t.Errorf("%q to %q at %d by %d: not %v", c.l, c.r, c.i, c.rule, c.holds)
		}
		if !c.holds {
			continue
		}
		if !sameRuns(t, m, l, r) {
			t.Errorf("%q to %q by %d: they do not do the same", c.l, c.r, c.rule)
		}
		for _, nums := range [][]int{nil, {}, {c.i, c.i}, {c.i, 0}, {-1}, {math.MaxInt}, {math.MinInt}, {len(l.L)}} {
			if block.Holds(c.rule, nums, l, r) {
				t.Errorf("%q to %q by %d with %v", c.l, c.r, c.rule, nums)
			}
		}
		for _, x := range changed(r) {
			if block.Holds(c.rule, []int{c.i}, l, x) {
				t.Errorf("%q to %v by %d", c.l, x, c.rule)
			}
		}
		for _, x := range []T{{K: l.K, N: 1, L: l.L}, {K: l.K, S: "s", L: l.L}, {K: api.KList, L: l.L}} {
			if block.Holds(c.rule, []int{c.i}, x, r) {
				t.Errorf("%v to %q by %d", x, c.r, c.rule)
			}
		}
	}
}

func TestSetSelf(t *testing.T) {
	for _, c := range []struct {
		l, r  string
		holds bool
	}{
		{"a = a;", "{ }", true}, {"e = e;", "{ }", true}, {"g = g;", "{ }", true}, {"h = h;", "{ }", true}, {"a = i;", "{ }", false}, {"e[0] = e[0];", "{ }", false}, {"r.x = r.x;", "{ }", false}, {"a = a + 0;", "{ }", false}, {"a = a;", "{ print 1; }", false}, {"a = a;", "a = a;", false}, {"{ a = a; }", "{ }", false}, {"print a;", "{ }", false},
	} {
		m, l, r := stmts(t, c.l, c.r)
		if block.Holds(api.SetSelf, nil, l, r) != c.holds || block.Holds(api.SetSelf, []int{0}, l, r) {
			t.Errorf("%q to %q", c.l, c.r)
		}
		if !c.holds {
			continue
		}
		if !sameRuns(t, m, l, r) {
			t.Errorf("%q to %q: they do not do the same", c.l, c.r)
		}
		for _, x := range changed(l) {
			if block.Holds(api.SetSelf, nil, x, r) {
				t.Errorf("%v", x)
			}
		}
		for _, x := range changed(r) {
			if block.Holds(api.SetSelf, nil, l, x) {
				t.Errorf("to %v", x)
			}
		}
	}
	num := T{K: api.KNum}
	for _, x := range []T{{}, {K: api.KSet}, {K: api.KSet, L: []T{num, num}}, {K: api.KSet, L: []T{{K: api.KLocal, L: []T{num}}, {K: api.KLocal, L: []T{num}}}}, {K: api.KSet, L: []T{{K: api.KConst}, {K: api.KConst}}}} {
		if block.Holds(api.SetSelf, nil, x, T{K: api.KBlock}) {
			t.Errorf("%v", x)
		}
	}
}

func TestFlat(t *testing.T) {
	for _, c := range cases {
		if c.rule != api.BlockFlat {
			continue
		}
		_, l, r := stmts(t, c.l, c.r)
		kept := term.Bare(l)
		x, ok := block.Flat(l, c.i)
		if c.holds && (!ok || !term.Same(x, r)) || !term.Same(l, kept) {
			t.Errorf("%q at %d: %v %v", c.l, c.i, x, ok)
		}
		named := l
		named.N, named.S = 4, "s"
		y, ok2 := block.Flat(named, c.i)
		if ok2 != ok || !term.Same(x, y) {
			t.Errorf("%q with a name: %v", c.l, y)
		}
	}
	loc := func(n int64) T { return T{K: api.KLocal, N: n} }
	printed := func(n int64) T { return T{K: api.KPrint, L: []T{loc(n)}} }
	let := T{K: api.KLet, L: []T{{K: api.KNum, N: 1}}}
	x, ok := block.Flat(T{K: api.KBlock, L: []T{{K: api.KBlock, N: 9, S: "s", L: []T{let}}, printed(0)}}, 0)
	if !ok || !term.Same(x, T{K: api.KBlock, L: []T{let, printed(1)}}) {
		t.Error("the example", x)
	}
	room := append(make([]T, 0, 9), T{K: api.KBlock, L: []T{let, let}}, printed(5))
	block.Flat(T{K: api.KBlock, L: room}, 0)
	block.Holds(api.DeadReturn, []int{0}, T{K: api.KBlock, L: room[:1]}, T{})
	if room[:9][2].K != 0 || room[1].L[0].N != 5 {
		t.Error("what was handed in is changed")
	}
	for _, c := range []struct {
		t T
		i int
	}{{T{}, 0}, {T{K: api.KBlock}, 0}, {T{K: api.KBlock, L: []T{let}}, 0}, {T{K: api.KList, L: []T{{K: api.KBlock}}}, 0}, {T{K: api.KBlock, L: []T{{K: api.KBlock}}}, 1}, {T{K: api.KBlock, L: []T{{K: api.KBlock}}}, -1}, {T{K: api.KBlock, L: []T{{K: api.KBlock}}}, math.MinInt}} {
		if x, ok := block.Flat(c.t, c.i); ok || !reflect.DeepEqual(x, T{}) {
			t.Errorf("%v is flat", c.t)
		}
	}
	num := T{K: api.KNum}
	for _, x := range []T{{K: api.KList, L: []T{loc(1), num}}, {K: api.KSet, L: []T{{K: api.KLocal, N: 1, L: []T{num}}, num}}, {K: api.KSet, L: []T{loc(1), num, num}}, {K: api.KSet, L: []T{loc(1)}}, {K: api.KSet}} {
		other := T{K: api.KSet, L: []T{loc(2), num}}
		for _, l := range [][]T{{x, other}, {other, x}} {
			if block.Holds(api.Swap, []int{0}, T{K: api.KBlock, L: l}, T{K: api.KBlock, L: []T{l[1], l[0]}}) {
				t.Errorf("%v changes its place", x)
			}
		}
	}
	locals := func(n int64) T { return T{K: api.KSet, L: []T{loc(n), {K: api.KNum}}} }
	two := T{K: api.KBlock, L: []T{locals(-1), locals(3)}}
	if !block.Holds(api.Swap, []int{0}, two, T{K: api.KBlock, L: []T{locals(3), locals(-1)}}) {
		t.Error("whatever number a local has")
	}
}
