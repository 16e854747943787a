package lets_test

import (
	"math"
	"reflect"
	"slices"
	"testing"

	"notary/api"
	"notary/exec"
	"notary/lets"
	"notary/right"
	"notary/term"
	"notary/value"
)

type T = api.Term

const prefix = "var g: int; var h: [2]int; rec R { x: int; y: bool; } const c = 3; fn writes(): int { g = g + 7; return 1; } fn prints(k: int): int { print k; return k; } fn none(): int { return 4; } fn odd(k: int): bool { print k; return k % 2 == 1; } "

// stmts reads two statements, which may name a: int, b: bool, e: [2]int, r: R and i: int.
func stmts(t *testing.T, l, r string) (T, T, T) {
	t.Helper()
	text := prefix
	for i, s := range []string{l, r} {
		text += "fn main" + string(rune('0'+i)) + "(a: int, b: bool, e: [2]int, r: R, i: int): int { " + s + " print a; print b; print e[0]; print e[1]; print r.x; print i; return g; } "
	}
	_, m, at, e := right.Read(text)
	if e != api.OK {
		t.Fatalf("%q: %d %d", text[at:], at, e)
	}
	return m, m.L[len(m.L)-2].L[2].L[0], m.L[len(m.L)-1].L[2].L[0]
}

var types = []T{{K: api.KInt}, {K: api.KBool}, {K: api.KArr, N: 2, L: []T{{K: api.KInt}}}, {K: api.KRec, N: 2}, {K: api.KInt}}

// sameRuns asks whether the two statements do the same, within so many times as much fuel.
func sameRuns(t *testing.T, m, l, r T) bool {
	t.Helper()
	for _, a := range []int64{-3, 0, 1, 2, 5} {
		s := exec.Start(m, []int64{4, a, 0, 9}, 9000)
		s.Globals[0].N = a + 1
		args := []api.Value{{N: a}, {N: a & 1}, {L: []api.Value{{N: 8}, {N: a}}}, {L: []api.Value{{N: 6}, {N: 1}}}, {N: 1}}
		v, p, e := exec.Call(m, s, len(m.L)-2, args)
		w, q, f := exec.Call(m, s, len(m.L)-1, args)
		if e != api.OK || f != api.OK {
			t.Fatal(e, f)
		}
		n, k := 9000-p.Fuel, 9000-q.Fuel
		times := 2 + term.Size(l) + term.Size(r)
		p.Fuel, q.Fuel = 0, 0
		if !value.Same(v, w) || !reflect.DeepEqual(p, q) || n > (k+1)*times || k > (n+1)*times {
			return false
		}
	}
	return true
}

// changed is all terms that are t but for one thing.
func changed(t T) []T {
	var out []T
	for _, p := range term.Paths(t) {
		for _, change := range []func(x *T){func(x *T) { x.K = api.KExt }, func(x *T) { x.N += 100 }, func(x *T) { x.S = "s" }, func(x *T) { x.L = append(slices.Clone(x.L), T{K: api.KPrint, L: []T{{K: api.KNum}}}) }} {
			x, _ := term.At(t, p)
			change(&x)
			y, _ := term.Put(t, p, x)
			out = append(out, y)
		}
	}
	return out
}

const unused, subst, next, split = api.LetUnused, api.LetSubst, api.LetNext, api.SplitLet

// cases: of which part of the left side which rules hold.
var cases = []struct {
	l, r  string
	i     int
	rules []int
}{
	{"{ let z = a; print i; }", "{ print i; }", 0, []int{unused, subst, next}}, {"{ let z = a; }", "{ }", 0, []int{unused, subst}}, {"{ let z: R; print i; }", "{ print i; }", 0, []int{unused}}, {"{ let y = 1; let z: int; print y; { print y; } }", "{ let y = 1; print y; { print y; } }", 1, []int{unused}}, {"{ let z = writes(); print i; }", "{ print i; }", 0, nil}, {"{ let z = a; print z; }", "{ print i; }", 0, nil}, {"{ let z = a; print i; g = 1; }", "{ print i; g = 1; }", 0, []int{unused, subst, next}}, {"{ let z = g; print i; g = 1; }", "{ print i; g = 1; }", 0, []int{unused, next}}, {"{ let z: int; z = 1; }", "{ }", 0, nil}, {"{ let z: int; print z; }", "{ print 0; }", 0, nil},
	{"{ let z = a + 1; print z; print z; }", "{ print a + 1; print a + 1; }", 0, []int{subst}}, {"{ let z = a + 1; print z; }", "{ print a + 1; }", 0, []int{subst, next}}, {"{ let z = a; a = 7; print z; }", "{ a = 7; print a; }", 0, nil}, {"{ let z = a; z = 7; print z; }", "{ a = 7; print a; }", 0, nil}, {"{ let z = a + 1; a = 7; print z; }", "{ a = 7; print a + 1; }", 0, nil}, {"{ let z = [i, -a]; if b { e[0] = 1; a = 7; } print z[0]; }", "{ if b { e[0] = 1; a = 7; } print [i, -a][0]; }", 0, nil}, {"{ let z = e; e[0] = 7; print z[0]; }", "{ e[0] = 7; print e[0]; }", 0, nil}, {"{ let z = a + 1; i = 7; print z; }", "{ i = 7; print a + 1; }", 0, []int{subst}}, {"{ let z = [a, i]; for k = 1 to 3 { let q = k; print z[0] + q; } while z[1] > i { print 1; } }", "{ for k = 1 to 3 { let q = k; print [a, i][0] + q; } while [a, i][1] > i { print 1; } }", 0, []int{subst}}, {"{ let z = g; do writes(); print z; }", "{ do writes(); print g; }", 0, nil}, {"{ let z = h; do writes(); print z[0]; }", "{ do writes(); print h[0]; }", 0, []int{subst}}, {"{ let z = none(); print z; }", "{ print none(); }", 0, nil}, {"{ let z = a; if b { a = 1; } print z; }", "{ if b { a = 1; } print a; }", 0, nil}, {"{ let y = 5; let z = y + a; print z; let y = z; print y; print z; }", "{ let y = 5; print y + a; let q = y + a; print q; print y + a; }", 1, []int{subst}}, {"{ let z = e; z[0] = 1; }", "{ e[0] = 1; }", 0, nil}, {"{ let z = a; { let a = 3; a = 4; print z; } }", "{ { let q = 3; q = 4; print a; } }", 0, []int{subst}}, {"{ let z = g; g = 1; }", "{ g = 1; }", 0, []int{unused, next}},
	{"{ let z = g + a; let y = z * 2; print y; do writes(); a = 3; }", "{ let y = (g + a) * 2; print y; do writes(); a = 3; }", 0, []int{next}}, {"{ let z = g; return z + none(); }", "{ return g + none(); }", 0, []int{subst, next}}, {"{ let z = g; return writes() + z; }", "{ return writes() + g; }", 0, nil}, {"{ let z = g; g = z + 1; print g; }", "{ g = g + 1; print g; }", 0, []int{next}}, {"{ let z = a; a = z + 1; print a; }", "{ a = a + 1; print a; }", 0, []int{next}}, {"{ let z = a; e[z] = 1; a = 1; }", "{ e[a] = 1; a = 1; }", 0, nil}, {"{ let z = a; e[0] = z; a = 1; }", "{ e[0] = a; a = 1; }", 0, []int{next}}, {"{ let z = b; if z { a = 1; } b = false; }", "{ if b { a = 1; } b = false; }", 0, []int{next}}, {"{ let z = b; if b { b = z; } b = false; }", "{ if b { b = b; } b = false; }", 0, nil}, {"{ let z = a; do prints(z); a = 2; }", "{ do prints(a); a = 2; }", 0, []int{next}}, {"{ let z = a; print z; print z; a = 2; }", "{ print a; print a; a = 2; }", 0, nil}, {"{ let z = a; while z > 5 { a = 1; } }", "{ while a > 5 { a = 1; } }", 0, nil}, {"{ let z = a; { print z; a = 1; } }", "{ { print a; a = 1; } }", 0, nil}, {"{ let z = a; for k = z to 3 { a = k; } }", "{ for k = a to 3 { a = k; } }", 0, nil}, {"{ let z = a; let y: int; a = z; }", "{ let y: int; a = a; }", 0, nil}, {"{ let z = g; print writes() + z; g = 9; }", "{ print writes() + g; g = 9; }", 0, nil}, {"{ let z = a; let y = z; let x = y; a = x; }", "{ let y = a; let x = y; a = x; }", 0, []int{next}},
	{"{ let z = a; print z; }", "{ let z: int; z = a; print z; }", 0, []int{split}}, {"{ print 1; let z = [odd(a), b]; return g; }", "{ print 1; let z: [2]bool; z = [odd(a), b]; return g; }", 1, []int{split}}, {"{ let y = 1; let q: R; let z = q; z.x = y; print z.x; }", "{ let y = 1; let q: R; let z: R; z = q; z.x = y; print z.x; }", 2, []int{split}}, {"{ let y = [a, i]; let z = y[0] < 0; print z; }", "{ let y = [a, i]; let z: bool; z = y[0] < 0; print z; }", 1, []int{split}}, {"{ let z = writes(); do writes(); }", "{ let z: int; z = writes(); do writes(); }", 0, []int{split}}, {"{ let z = a; print z; }", "{ let z: int; z = i; print z; }", 0, nil}, {"{ let z = a; print z; }", "{ let z: int; print z; }", 0, nil}, {"{ let z = a; print z; }", "{ let z: int; print z; z = a; }", 0, nil}, {"{ let z: int; z = a; print z; }", "{ let z = a; print z; }", 0, nil}, {"{ let z = a; print z; }", "{ let z: bool; z = b; print z; }", 0, nil}, {"{ print 1; let z = a; print z; }", "{ print 1; let z: int; z = a; print z; }", 0, nil},
	{"{ print a; print i; }", "{ print i; }", 0, nil}, {"print a;", "print a;", 0, nil},
}

func TestHolds(t *testing.T) {
	for _, c := range cases {
		m, l, r := stmts(t, c.l, c.r)
		for rule := -1; rule <= api.DropParam+2; rule++ {
			want := slices.Contains(c.rules, rule)
			if lets.Holds(m, types, rule, []int{c.i}, l, r) != want {
				t.Errorf("%q to %q at %d by %d: not %v", c.l, c.r, c.i, rule, want)
			}
			if !want {
				continue
			}
			if !sameRuns(t, m, l, r) {
				t.Errorf("%q to %q by %d: they do not do the same", c.l, c.r, rule)
			}
			for _, nums := range [][]int{nil, {}, {c.i, c.i}, {-1}, {math.MaxInt}, {math.MinInt}, {len(l.L)}} {
				if lets.Holds(m, types, rule, nums, l, r) {
					t.Errorf("%q to %q by %d with %v", c.l, c.r, rule, nums)
				}
			}
			for _, x := range changed(r) {
				if lets.Holds(m, types, rule, []int{c.i}, l, x) {
					t.Errorf("%q to %v by %d", c.l, x, rule)
				}
			}
			for _, x := range []T{{K: l.K, N: 1, L: l.L}, {K: l.K, S: "s", L: l.L}, {K: api.KList, L: l.L}} {
				if lets.Holds(m, types, rule, []int{c.i}, x, r) {
					t.Errorf("%v to %q by %d", x, c.r, rule)
				}
			}
		}
	}
}

func TestInline(t *testing.T) {
	for _, c := range cases {
		m, l, r := stmts(t, c.l, c.r)
		kept := term.Bare(l)
		x, ok := lets.Inline(m, l, c.i)
		inlined := slices.Contains(c.rules, subst) || slices.Contains(c.rules, next)
		if inlined && (!ok || !term.Same(x, r)) || !term.Same(kept, l) {
			t.Errorf("%q at %d: %v %v", c.l, c.i, x, ok)
		}
		if ok && !lets.Holds(m, nil, subst, []int{c.i}, l, x) && !lets.Holds(m, nil, next, []int{c.i}, l, x) {
			t.Errorf("%q at %d: %v by no rule", c.l, c.i, x)
		}
		for _, i := range []int{-1, len(l.L), math.MaxInt, math.MinInt} {
			if x, ok := lets.Inline(m, l, i); ok || !reflect.DeepEqual(x, T{}) {
				t.Errorf("%q at %d", c.l, i)
			}
		}
	}
	m, l, _ := stmts(t, "{ let z = a; a = 7; print z; }", "{ }")
	if x, ok := lets.Inline(m, l, 0); ok || !reflect.DeepEqual(x, T{}) {
		t.Error("no rule holds", x)
	}
	m, l, _ = stmts(t, "{ let z: int; print a; }", "{ }")
	if _, ok := lets.Inline(m, l, 0); ok {
		t.Error("a KNew has no value")
	}
	l = T{K: api.KBlock, N: 1, L: []T{{K: api.KLet, L: []T{{K: api.KNum}}}}}
	if _, ok := lets.Inline(m, l, 0); ok {
		t.Error("a block of another number")
	}
}

// TestTypes: what splits a local has the type that the value has where it stands.
func TestTypes(t *testing.T) {
	m, l, r := stmts(t, "{ let z = a; }", "{ let z: int; z = a; }")
	if !lets.Holds(m, types, split, []int{0}, l, r) || lets.Holds(m, nil, split, []int{0}, l, r) || lets.Holds(m, []T{{K: api.KBool}, {K: api.KBool}, {K: api.KBool}, {K: api.KBool}, {K: api.KBool}}, split, []int{0}, l, r) || lets.Holds(m, types[:4], split, []int{0}, l, r) {
		t.Error("the locals' types")
	}
	room := append(make([]T, 0, 9), types...)
	m, l, r = stmts(t, "{ let y = true; let z = y; }", "{ let y = true; let z: bool; z = y; }")
	if !lets.Holds(m, room, split, []int{1}, l, r) || room[:9][5].K != 0 {
		t.Error("the room behind the end")
	}
	other, _ := term.Put(r, []int{1, 0}, T{K: api.KInt})
	if lets.Holds(m, types, split, []int{1}, l, other) {
		t.Error("another type")
	}
}

func TestWhateverModuleEnds(t *testing.T) {
	for k := -1; k <= api.KModule+1; k++ {
		x := T{K: k, N: math.MaxInt64, L: []T{{K: api.KLocal, N: math.MaxInt64}}}
		for _, b := range []T{{K: api.KBlock, L: []T{x, {K: api.KLet, L: []T{{K: api.KLocal, N: -1}}}, x}}, {K: api.KBlock, L: []T{{K: api.KLet, L: []T{x}}, x}}, {K: api.KBlock, L: []T{{K: api.KLet, L: []T{{K: api.KLocal, N: math.MaxInt64}}}, {K: k}}}, {K: api.KBlock, L: []T{{K: k}, {K: api.KLet}, {K: api.KNew}}}} {
			for rule := -1; rule <= api.DropParam; rule++ {
				for i := range 3 {
					lets.Holds(T{}, nil, rule, []int{i}, b, b)
					lets.Holds(T{K: api.KModule, L: []T{x, b}}, []T{x}, rule, []int{i}, b, T{})
					lets.Inline(x, b, i)
				}
			}
		}
	}
}
