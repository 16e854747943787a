package algebra_test

import (
	"math"
	"reflect"
	"slices"
	"testing"

	"notary/algebra"
	"notary/api"
	"notary/exec"
	"notary/right"
	"notary/term"
	"notary/value"
)

type T = api.Term

const prefix = "var g: int; var h: [2]int; rec R { x: int; y: bool; } const c = 3; const d = true; fn writes(): int { g = g + 7; return 1; } fn prints(k: int): int { print k; return k; } fn none(): int { return 4; } fn yes(k: int): bool { print k; return k > 0; } fn both(k: int, l: int): int { return k * 10 + l; } fn spare(): bool { return h[0] == 0; } "

// exprs reads expressions, which may name a: int, b: bool, e: [2]int, r: R and i: int.
func exprs(t *testing.T, l ...string) (T, []T) {
	t.Helper()
	text := prefix + "fn main(a: int, b: bool, e: [2]int, r: R, i: int): int {"
	for _, x := range l {
		text += " { let z = " + x + "; }"
	}
	_, m, at, e := right.Read(text + " }")
	if e != api.OK {
		t.Fatalf("%q: %d %d", text[at:], at, e)
	}
	var out []T
	for _, s := range m.L[len(m.L)-1].L[2].L {
		out = append(out, s.L[0].L[0])
	}
	return m, out
}

// sameRuns asks whether two expressions do the same, within so many times as much fuel.
func sameRuns(t *testing.T, m, l, r T) bool {
	t.Helper()
	types := []T{{K: api.KInt}, {K: api.KBool}, {K: api.KArr, N: 2, L: []T{{K: api.KInt}}}, {K: api.KRec, N: 2}, {K: api.KInt}}
	for _, a := range []int64{-9223372036854775808, -7, 0, 1, 5} {
		s := exec.Start(m, []int64{4, a, 0, 9}, 5000)
		s.Globals[0].N = a + 1
		s.Locals = []api.Value{{N: a}, {N: a & 1}, {L: []api.Value{{N: 8}, {N: a}}}, {L: []api.Value{{N: 6}, {N: 1}}}, {N: 1}}
		v, p, e := exec.Eval(m, types, s, l)
		w, q, f := exec.Eval(m, types, s, r)
		if e != api.OK || f != api.OK {
			t.Fatalf("%v %d, %v %d", l, e, r, f)
		}
		n, k := 5000-p.Fuel, 5000-q.Fuel
		times := 2 + term.Size(l) + term.Size(r)
		p.Fuel, q.Fuel = 0, 0
		if !value.Same(v, w) || !reflect.DeepEqual(p, q) || n > (k+1)*times || k > (n+1)*times {
			return false
		}
	}
	return true
}

// cases: which rules hold of which sides.
var cases = []struct {
	l, r  string
	rules []int
}{
	{"a + i", "i + a", []int{api.AddComm}}, {"a + g", "g + a", []int{api.AddComm}}, {"a + writes()", "writes() + a", []int{api.AddComm}}, {"g + writes()", "writes() + g", nil}, {"writes() + g", "g + writes()", nil}, {"writes() + none()", "none() + writes()", nil}, {"read + a", "a + read", []int{api.AddComm}}, {"read + read", "read + read", nil}, {"a + a", "a + a", []int{api.AddComm}}, {"a + i", "a + i", nil}, {"a + i", "i * a", nil}, {"a - i", "i - a", nil}, {"(a + 1) + i", "i + (a + 1)", []int{api.AddComm}}, {"a / i + 1", "1 + a / i", []int{api.AddComm}}, {"e[a] + a / a", "a / a + e[a]", nil},
	{"a * i", "i * a", []int{api.MulComm}}, {"a * (g + 1)", "(g + 1) * a", []int{api.MulComm}}, {"g * writes()", "writes() * g", nil}, {"a * prints(1)", "prints(1) * a", []int{api.MulComm}}, {"prints(2) * prints(1)", "prints(1) * prints(2)", nil}, {"a * i", "i + a", nil},
	{"(a + i) + g", "a + (i + g)", []int{api.AddAssoc}}, {"(writes() + g) + read", "writes() + (g + read)", []int{api.AddAssoc}}, {"a + (i + g)", "(a + i) + g", nil}, {"(a + i) + g", "a + (g + i)", nil}, {"(a + i) - g", "a + (i - g)", nil}, {"(a * i) + g", "a * (i + g)", nil},
	{"(a * i) * g", "a * (i * g)", []int{api.MulAssoc}}, {"(prints(1) * prints(2)) * prints(3)", "prints(1) * (prints(2) * prints(3))", []int{api.MulAssoc}}, {"(a * i) * g", "i * (a * g)", nil}, {"a * (i * g)", "(a * i) * g", nil},
	{"a + 0", "a", []int{api.AddZero}}, {"writes() + 0", "writes()", []int{api.AddZero}}, {"0 + a", "a", nil}, {"a + 0", "i", nil}, {"a + 1", "a", nil}, {"a - 0", "a", nil}, {"0 + 0", "0", []int{api.AddZero}}, {"a / 1 + 0", "a / 1", []int{api.AddZero}},
	{"a * 1", "a", []int{api.MulOne}}, {"read * 1", "read", []int{api.MulOne}}, {"1 * a", "a", nil}, {"a * 1", "1", nil}, {"a * 0", "a", nil}, {"a * 2", "a", nil},
	{"a * 0", "0", []int{api.MulZero}}, {"(g + a) * 0", "0", []int{api.MulZero}}, {"writes() * 0", "0", nil}, {"e[a] * 0", "0", nil}, {"a / i * 0", "0", nil}, {"0 * a", "0", nil}, {"a * 0", "1", nil}, {"0 * 0", "0", []int{api.MulZero}}, {"0 * 1", "0", []int{api.MulOne}},
	{"a - a", "0", []int{api.SubSelf}}, {"(a + g) - (a + g)", "0", []int{api.SubSelf}}, {"a - i", "0", nil}, {"read - read", "0", nil}, {"none() - none()", "0", nil}, {"a - a", "1", nil}, {"a + a", "0", nil},
	{"a - i", "a + -i", []int{api.SubNeg}}, {"writes() - g", "writes() + -g", []int{api.SubNeg}}, {"a - i", "a - -i", nil}, {"a - i", "i + -a", nil}, {"a - i", "-i + a", nil}, {"a + -i", "a - i", nil}, {"a - -i", "a + - - i", []int{api.SubNeg}},
	{"- -a", "a", []int{api.NegNeg}}, {"- -read", "read", []int{api.NegNeg}}, {"- -a", "-a", nil}, {"-a", "a", nil}, {"- - -a", "-a", []int{api.NegNeg}},
	{"a * (i + g)", "(a * i) + (a * g)", []int{api.Distrib}}, {"a * (writes() + g)", "(a * writes()) + (a * g)", []int{api.Distrib}}, {"g * (writes() + a)", "(g * writes()) + (g * a)", nil}, {"g * (a + writes())", "(g * a) + (g * writes())", []int{api.Distrib}}, {"none() * (a + i)", "(none() * a) + (none() * i)", nil}, {"a * (i + g)", "(a * g) + (a * i)", nil}, {"a * (i + g)", "(i * a) + (i * g)", nil}, {"a * (i - g)", "(a * i) - (a * g)", nil}, {"(i + g) * a", "(i * a) + (g * a)", nil},
	{"b", "b", nil}, {"a", "a", nil},
}

func TestHolds(t *testing.T) {
	for _, c := range cases {
		m, l := exprs(t, c.l, c.r)
		for rule := -1; rule <= api.DropParam+2; rule++ {
			want := slices.Contains(c.rules, rule)
			if algebra.Holds(m, rule, l[0], l[1]) != want {
				t.Errorf("%q to %q by %d: not %v", c.l, c.r, rule, want)
			}
			if want && !sameRuns(t, m, l[0], l[1]) {
				t.Errorf("%q to %q by %d: they do not do the same", c.l, c.r, rule)
			}
		}
	}
}

// TestShapes: whatever is changed in a side, the rule does not hold.
func TestShapes(t *testing.T) {
	for _, c := range cases {
		m, l := exprs(t, c.l, c.r)
		for _, rule := range c.rules {
			for side := range 2 {
				for _, p := range term.Paths(l[side]) {
					x, _ := term.At(l[side], p)
					for _, change := range []func(x *T){func(x *T) { x.K = api.KExt }, func(x *T) { x.N += 100 }, func(x *T) { x.S = "s" }, func(x *T) { x.L = append(slices.Clone(x.L), T{K: api.KNum}) }, func(x *T) { x.L = x.L[:max(len(x.L)-1, 0)]; x.K *= 2 }} {
						y := x
						change(&y)
						two := slices.Clone(l)
						two[side], _ = term.Put(l[side], p, y)
						if term.Same(two[side], l[side]) || rule == api.MulZero && side == 0 && len(p) > 0 && p[0] == 0 {
							continue
						}
						if algebra.Holds(m, rule, two[0], two[1]) {
							t.Errorf("%q to %q by %d holds of %v, %v", c.l, c.r, rule, two[0], two[1])
						}
					}
					placed := x
					placed.From, placed.To = 3, 9
					two := slices.Clone(l)
					two[side], _ = term.Put(l[side], p, placed)
					if !algebra.Holds(m, rule, two[0], two[1]) {
						t.Errorf("%q to %q by %d: places matter", c.l, c.r, rule)
					}
				}
			}
		}
	}
}

func TestWhateverModuleEnds(t *testing.T) {
	call := T{K: api.KCall, N: math.MaxInt64, L: []T{{K: api.KGlobal, N: -1}}}
	sum := T{K: api.KBin, N: api.OpAdd, L: []T{call, {K: api.KGlobal, N: math.MinInt64}}}
	for rule := -1; rule <= api.DropParam+1; rule++ {
		algebra.Holds(T{}, rule, sum, sum)
		algebra.Holds(T{K: api.KModule, L: []T{sum, {K: api.KFn}}}, rule, T{}, T{})
	}
}
