package calls_test

import (
	"math"
	"reflect"
	"testing"

	"notary/api"
	"notary/calls"
	"notary/exec"
	"notary/right"
	"notary/term"
	"notary/value"
)

type T = api.Term

const prefix = "var g: int; var h: [2]int; rec R { x: int; y: bool; } const c = 3; const d = true; fn writes(): int { g = g + 7; return 1; } fn prints(k: int): int { print k; return k; } fn none(): int { return 4; } fn yes(k: int): bool { print k; return k > 0; } fn both(k: int, l: int): int { return k * 10 + l; } fn spare(): bool { return h[0] == 0; } fn sub(p: int, q: int): int { return p - q; } fn get(p: int): int { return g + p; } fn put(p: int): int { return writes() + p; } fn self(p: int): int { return self(p); } pub fn shown(p: bool, q: int, s: bool): bool { return p && s || q > read; } fn more(p: int): int { print p; return p; } fn inner(p: int): int { { return p; } } fn nothing(p: int): int { } fn made(p: int, q: bool): R { return new R(p, q); } "

// exprs reads expressions, which may name a: int, b: bool, e: [2]int, r: R and i: int.
func exprs(t *testing.T, l ...string) (T, []T) {
	t.Helper()
	text := prefix + "fn main(a: int, b: bool, e: [2]int, r: R, i: int): int {"
	for _, x := range l {
		text += " { let z = " + x + "; }"
	}
	_, m, at, e := right.Read(text + " }")
	if e != api.OK {
		t.Fatalf("%q: %d %d", text[at:], at, e)
	}
	var out []T
	for _, s := range m.L[len(m.L)-1].L[2].L {
		out = append(out, s.L[0].L[0])
	}
	return m, out
}

// sameRuns asks whether two expressions do the same, within so many times as much fuel.
func sameRuns(t *testing.T, m, l, r T) bool {
	t.Helper()
	types := []T{{K: api.KInt}, {K: api.KBool}, {K: api.KArr, N: 2, L: []T{{K: api.KInt}}}, {K: api.KRec, N: 2}, {K: api.KInt}}
	for _, a := range []int64{-9223372036854775808, -7, 0, 1, 5} {
		s := exec.Start(m, []int64{4, a, 0, 9}, 5000)
		s.Globals[0].N = a + 1
		s.Locals = []api.Value{{N: a}, {N: a & 1}, {L: []api.Value{{N: 8}, {N: a}}}, {L: []api.Value{{N: 6}, {N: 1}}}, {N: 1}}
		v, p, e := exec.Eval(m, types, s, l)
		w, q, f := exec.Eval(m, types, s, r)
		if e != api.OK || f != api.OK {
			t.Fatalf("%v %d, %v %d", l, e, r, f)
		}
		n, k := 5000-p.Fuel, 5000-q.Fuel
		times := 2 + term.Size(l) + term.Size(r)
		p.Fuel, q.Fuel = 0, 0
		if !value.Same(v, w) || !reflect.DeepEqual(p, q) || n > (k+1)*times || k > (n+1)*times {
			return false
		}
	}
	return true
}

// cases: whether the rule holds of the sides.
var cases = []struct {
	l, r  string
	holds bool
}{
	{"sub(1, 2)", "1 - 2", true}, {"sub(a, i)", "a - i", true}, {"sub(a, i)", "i - a", false}, {"sub(a + 1, i * g)", "(a + 1) - (i * g)", true}, {"sub(a, a)", "a - a", true}, {"sub(read, 2)", "read - 2", false}, {"sub(a, none())", "a - none()", false}, {"sub(a, 1 / i)", "a - 1 / i", false}, {"sub(a, e[0])", "a - e[0]", false},
	{"get(a)", "g + a", true}, {"get(g)", "g + g", true}, {"put(a)", "writes() + a", true}, {"put(g)", "writes() + g", false}, {"put(h[0])", "writes() + h[0]", false}, {"none()", "4", true}, {"none()", "5", false}, {"both(a, i)", "a * 10 + i", true}, {"spare()", "h[0] == 0", true},
	{"self(a)", "self(a)", true}, {"shown(b, a, d)", "b && d || a > read", true}, {"shown(b, a, d)", "d && b || a > read", false}, {"more(a)", "a", false}, {"inner(a)", "a", false}, {"nothing(a)", "0", false}, {"writes()", "1", false}, {"made(a, b).x", "new R(a, b).x", false}, {"a - i", "a - i", false}, {"sub(1, 2)", "sub(1, 2)", false}, {"1 - 2", "sub(1, 2)", false},
}

func TestHolds(t *testing.T) {
	for _, c := range cases {
		m, l := exprs(t, c.l, c.r)
		main := len(m.L) - 1
		for rule := -1; rule <= api.DropParam+2; rule++ {
			want := c.holds && rule == api.CallUnfold
			if calls.Holds(m, main, rule, l[0], l[1]) != want {
				t.Errorf("%q to %q by %d: not %v", c.l, c.r, rule, want)
			}
		}
		x, ok := calls.Unfold(m, l[0])
		if c.holds && (!ok || !term.Same(x, l[1])) || !ok && !reflect.DeepEqual(x, T{}) {
			t.Errorf("%q unfolds to %v", c.l, x)
		}
		if !c.holds {
			continue
		}
		for decl := range main + 1 {
			if calls.Holds(m, decl, api.CallUnfold, l[0], l[1]) != (int64(decl) != l[0].N) {
				t.Errorf("%q in the declaration %d", c.l, decl)
			}
		}
		if !calls.Holds(m, -1, api.CallUnfold, l[0], l[1]) || !calls.Holds(m, math.MaxInt, api.CallUnfold, l[0], l[1]) {
			t.Errorf("%q in another place", c.l)
		}
		if c.l != "self(a)" && !sameRuns(t, m, l[0], l[1]) {
			t.Errorf("%q to %q: they do not do the same", c.l, c.r)
		}
		for _, p := range term.Paths(l[1]) {
			x, _ := term.At(l[1], p)
			x.N += 100
			if y, _ := term.Put(l[1], p, x); calls.Holds(m, main, api.CallUnfold, l[0], y) {
				t.Errorf("%q to %v", c.l, y)
			}
		}
	}
	m, l := exprs(t, "made(a, b)", "new R(a, b)")
	if !calls.Holds(m, 0, api.CallUnfold, l[0], l[1]) || !sameRuns(t, m, l[0], l[1]) {
		t.Error("a record")
	}
	kept, _ := exprs(t, "made(a, b)", "new R(a, b)")
	if !reflect.DeepEqual(m, kept) {
		t.Error("the module is changed")
	}
}

func TestHandMade(t *testing.T) {
	num := func(n int64) T { return T{K: api.KNum, N: n} }
	of := func(k int, l ...T) T { return T{K: k, L: l} }
	fn := func(b T) T { return of(api.KFn, of(api.KParams, T{}), of(api.KInt), b) }
	good := of(api.KBlock, of(api.KReturn, of(api.KList, T{K: api.KLocal, N: 0}, T{K: api.KLocal, N: 1}, T{K: api.KLocal, N: -1})))
	m := of(api.KModule, fn(good), fn(of(api.KBlock)), fn(of(api.KBlock, of(api.KReturn))), fn(of(api.KBlock, of(api.KPrint, num(1)))), fn(of(api.KReturn, num(1))), of(api.KFn, of(api.KParams, T{}), of(api.KInt)), of(api.KVar, of(api.KParams, T{}), T{}, good), fn(of(api.KBlock, of(api.KReturn, num(1), num(2)))), fn(of(api.KBlock, of(api.KReturn, num(1)), num(1))), fn(of(api.KList, of(api.KReturn, num(1)))), of(api.KFn, of(api.KParams, T{}), of(api.KInt), good, good))
	for i := int64(-2); i < 12; i++ {
		x, ok := calls.Unfold(m, T{K: api.KCall, N: i, L: []T{num(9)}})
		if ok != (i == 0) || ok && !term.Same(x, of(api.KList, num(9), T{K: api.KLocal, N: 1}, T{K: api.KLocal, N: -1})) {
			t.Errorf("%d: %v", i, x)
		}
	}
	for _, x := range []T{{K: api.KCall, S: "f", L: []T{num(1)}}, {K: api.KCall}, {K: api.KCall, L: []T{num(1), num(2)}}, {K: api.KExt, L: []T{num(1)}}, {K: api.KCall, N: math.MaxInt64, L: []T{num(1)}}, {K: api.KCall, N: math.MinInt64, L: []T{num(1)}}, {}} {
		if y, ok := calls.Unfold(m, x); ok || !reflect.DeepEqual(y, T{}) {
			t.Errorf("%v: %v", x, y)
		}
	}
}
