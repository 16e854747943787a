package logic_test

import (
	"math"
	"reflect"
	"slices"
	"testing"

	"notary/api"
	"notary/exec"
	"notary/logic"
	"notary/right"
	"notary/term"
	"notary/value"
)

type T = api.Term

const prefix = "var g: int; var h: [2]int; rec R { x: int; y: bool; } const c = 3; const d = true; fn writes(): int { g = g + 7; return 1; } fn prints(k: int): int { print k; return k; } fn none(): int { return 4; } fn yes(k: int): bool { print k; return k > 0; } fn both(k: int, l: int): int { return k * 10 + l; } fn spare(): bool { return h[0] == 0; } "

// exprs reads expressions, which may name a: int, b: bool, e: [2]int, r: R and i: int.
func exprs(t *testing.T, l ...string) (T, []T) {
	t.Helper()
	text := prefix + "fn main(a: int, b: bool, e: [2]int, r: R, i: int): int {"
	for _, x := range l {
		text += " { let z = " + x + "; }"
	}
	_, m, at, e := right.Read(text + " }")
	if e != api.OK {
		t.Fatalf("%q: %d %d", text[at:], at, e)
	}
	var out []T
	for _, s := range m.L[len(m.L)-1].L[2].L {
		out = append(out, s.L[0].L[0])
	}
	return m, out
}

// sameRuns asks whether two expressions do the same, within so many times as much fuel.
func sameRuns(t *testing.T, m, l, r T) bool {
	t.Helper()
	types := []T{{K: api.KInt}, {K: api.KBool}, {K: api.KArr, N: 2, L: []T{{K: api.KInt}}}, {K: api.KRec, N: 2}, {K: api.KInt}}
	for _, a := range []int64{-9223372036854775808, -7, 0, 1, 5} {
		s := exec.Start(m, []int64{4, a, 0, 9}, 5000)
		s.Globals[0].N = a + 1
		s.Locals = []api.Value{{N: a}, {N: a & 1}, {L: []api.Value{{N: 8}, {N: a}}}, {L: []api.Value{{N: 6}, {N: 1}}}, {N: 1}}
		v, p, e := exec.Eval(m, types, s, l)
		w, q, f := exec.Eval(m, types, s, r)
		if e != api.OK || f != api.OK {
			t.Fatalf("%v %d, %v %d", l, e, r, f)
		}
		n, k := 5000-p.Fuel, 5000-q.Fuel
		times := 2 + term.Size(l) + term.Size(r)
		p.Fuel, q.Fuel = 0, 0
		if !value.Same(v, w) || !reflect.DeepEqual(p, q) || n > (k+1)*times || k > (n+1)*times {
			return false
		}
	}
	return true
}

// cases: which rules hold of which sides.
var cases = []struct {
	l, r  string
	rules []int
}{
	{"!(!b)", "b", []int{api.NotNot}}, {"!!yes(1)", "yes(1)", []int{api.NotNot}}, {"!b", "b", nil}, {"!!b", "!b", nil}, {"!!b", "d", nil},
	{"b && d", "d && b", []int{api.AndComm}}, {"b && a > 1", "a > 1 && b", []int{api.AndComm}}, {"b && yes(1)", "yes(1) && b", nil}, {"read == 1 && b", "b && read == 1", nil}, {"b && 1 / a == 1", "1 / a == 1 && b", nil}, {"b && d", "b && d", nil}, {"b && d", "d || b", nil}, {"b && b", "b && b", []int{api.AndComm}}, {"g == 1 && writes() == 1", "writes() == 1 && g == 1", nil},
	{"b || d", "d || b", []int{api.OrComm}}, {"b || yes(1)", "yes(1) || b", nil}, {"yes(1) || b", "b || yes(1)", nil}, {"b || d", "d && b", nil},
	{"(b && d) && a > 1", "b && (d && a > 1)", []int{api.AndAssoc}}, {"(yes(0) && yes(1)) && yes(2)", "yes(0) && (yes(1) && yes(2))", []int{api.AndAssoc}}, {"b && (d && a > 1)", "(b && d) && a > 1", nil}, {"(b && d) && a > 1", "b && (a > 1 && d)", nil}, {"(b && d) || a > 1", "b && (d || a > 1)", nil},
	{"(b || d) || a > 1", "b || (d || a > 1)", []int{api.OrAssoc}}, {"(yes(0) || yes(-1)) || yes(2)", "yes(0) || (yes(-1) || yes(2))", []int{api.OrAssoc}}, {"(b || d) && a > 1", "b || (d && a > 1)", nil},
	{"!(b && d)", "!b || !d", []int{api.DeMorganAnd}}, {"!(yes(1) && yes(0))", "!yes(1) || !yes(0)", []int{api.DeMorganAnd}}, {"!(b && d)", "!b && !d", nil}, {"!(b && d)", "!d || !b", nil}, {"!b || !d", "!(b && d)", nil}, {"b && d", "!b || !d", nil},
	{"!(b || d)", "!b && !d", []int{api.DeMorganOr}}, {"!(yes(0) || yes(1))", "!yes(0) && !yes(1)", []int{api.DeMorganOr}}, {"!(b || d)", "!b || !d", nil}, {"!(b || d)", "b && d", nil},
	{"true && b", "b", []int{api.AndTrue}}, {"true && yes(1)", "yes(1)", []int{api.AndTrue}}, {"b && true", "b", nil}, {"true || b", "b", nil}, {"true && b", "d", nil}, {"d && b", "b", nil}, {"true && true", "true", []int{api.AndTrue}},
	{"false || b", "b", []int{api.OrFalse}}, {"false || yes(0)", "yes(0)", []int{api.OrFalse}}, {"b || false", "b", nil}, {"false && b", "b", nil},
	{"false && b", "false", []int{api.AndFalse}}, {"false && yes(1)", "false", []int{api.AndFalse}}, {"b && false", "false", nil}, {"false && b", "true", nil}, {"true && b", "false", nil}, {"false || false", "false", []int{api.OrFalse}}, {"false && false", "false", []int{api.AndFalse}},
	{"true || b", "true", []int{api.OrTrue}}, {"true || yes(1)", "true", []int{api.OrTrue}}, {"b || true", "true", nil}, {"true || b", "false", nil}, {"true || true", "true", []int{api.OrTrue}},
	{"a == i", "i == a", []int{api.EqComm}}, {"b == d", "d == b", []int{api.EqComm}}, {"a == writes()", "writes() == a", []int{api.EqComm}}, {"g == writes()", "writes() == g", nil}, {"read == a / a", "a / a == read", nil}, {"a == i", "i != a", nil}, {"a == i", "a == i", nil},
	{"a != i", "i != a", []int{api.NeComm}}, {"none() != writes()", "writes() != none()", nil}, {"a != i", "i == a", nil},
	{"a < i", "i > a", []int{api.LessFlip}}, {"a < prints(1)", "prints(1) > a", []int{api.LessFlip}}, {"g < writes()", "writes() > g", nil}, {"a < i", "a > i", nil}, {"a < i", "i >= a", nil}, {"i > a", "a < i", nil},
	{"a <= i", "i >= a", []int{api.LeastFlip}}, {"writes() <= a", "a >= writes()", []int{api.LeastFlip}}, {"writes() <= g", "g >= writes()", nil}, {"a <= i", "i > a", nil},
	{"!(a == i)", "a != i", []int{api.NotEq}}, {"!(read == writes())", "read != writes()", []int{api.NotEq}}, {"!(a == i)", "i != a", nil}, {"!(a != i)", "a == i", nil}, {"!(b == d)", "b != d", []int{api.NotEq}},
	{"!(a < i)", "a >= i", []int{api.NotLess}}, {"!(writes() < g)", "writes() >= g", []int{api.NotLess}}, {"!(a < i)", "a > i", nil}, {"!(a < i)", "i >= a", nil}, {"!(a > i)", "a <= i", nil},
	{"!(a <= i)", "a > i", []int{api.NotLeast}}, {"!(prints(1) <= prints(2))", "prints(1) > prints(2)", []int{api.NotLeast}}, {"!(a <= i)", "a >= i", nil}, {"!(a <= i)", "i > a", nil}, {"!(a >= i)", "a < i", nil},
	{"a + i", "i + a", nil}, {"b", "b", nil},
}

func TestHolds(t *testing.T) {
	for _, c := range cases {
		m, l := exprs(t, c.l, c.r)
		for rule := -1; rule <= api.DropParam+2; rule++ {
			want := slices.Contains(c.rules, rule)
			if logic.Holds(m, rule, l[0], l[1]) != want {
				t.Errorf("%q to %q by %d: not %v", c.l, c.r, rule, want)
			}
			if want && !sameRuns(t, m, l[0], l[1]) {
				t.Errorf("%q to %q by %d: they do not do the same", c.l, c.r, rule)
			}
		}
	}
}

// TestShapes: whatever is changed in a side that the other one says again, the rule does not hold.
func TestShapes(t *testing.T) {
	for _, c := range cases {
		m, l := exprs(t, c.l, c.r)
		for _, rule := range c.rules {
			for side := range 2 {
				for _, p := range term.Paths(l[side]) {
					x, _ := term.At(l[side], p)
					for _, change := range []func(x *T){func(x *T) { x.K = api.KExt }, func(x *T) { x.N += 100 }, func(x *T) { x.S = "s" }, func(x *T) { x.L = append(slices.Clone(x.L), T{K: api.KNum}) }} {
						y := x
						change(&y)
						two := slices.Clone(l)
						two[side], _ = term.Put(l[side], p, y)
						if (rule == api.AndFalse || rule == api.OrTrue) && side == 0 && len(p) > 0 && p[0] == 1 {
							continue
						}
						if logic.Holds(m, rule, two[0], two[1]) {
							t.Errorf("%q to %q by %d holds of %v, %v", c.l, c.r, rule, two[0], two[1])
						}
					}
					x.From, x.To = 3, 9
					two := slices.Clone(l)
					two[side], _ = term.Put(l[side], p, x)
					if !logic.Holds(m, rule, two[0], two[1]) {
						t.Errorf("%q to %q by %d: places matter", c.l, c.r, rule)
					}
				}
			}
		}
	}
}

func TestWhateverModuleEnds(t *testing.T) {
	call := T{K: api.KCall, N: math.MaxInt64, L: []T{{K: api.KGlobal, N: -1}}}
	sum := T{K: api.KBin, N: api.OpEq, L: []T{call, {K: api.KGlobal, N: math.MinInt64}}}
	for rule := -1; rule <= api.DropParam+1; rule++ {
		logic.Holds(T{}, rule, sum, sum)
		logic.Holds(T{K: api.KModule, L: []T{sum, {K: api.KFn}}}, rule, T{}, T{})
	}
}
