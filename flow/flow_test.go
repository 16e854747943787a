package flow_test

import (
	"reflect"
	"slices"
	"testing"

	"notary/api"
	"notary/exec"
	"notary/flow"
	"notary/right"
	"notary/term"
	"notary/value"
)

type T = api.Term

const prefix = "var g: int; var h: [2]int; rec R { x: int; y: bool; } const c = 3; fn writes(): int { g = g + 7; return 1; } fn prints(k: int): int { print k; return k; } fn none(): int { return 4; } fn odd(k: int): bool { print k; return k % 2 == 1; } "

// stmts reads two statements, which may name a: int, b: bool, e: [2]int, r: R and i: int.
func stmts(t *testing.T, l, r string) (T, T, T) {
	t.Helper()
	text := prefix
	for i, s := range []string{l, r} {
		text += "fn main" + string(rune('0'+i)) + "(a: int, b: bool, e: [2]int, r: R, i: int): int { " + s + " print a; print b; print e[0]; print e[1]; print r.x; print i; return g; } "
	}
	_, m, at, e := right.Read(text)
	if e != api.OK {
		t.Fatalf("%q: %d %d", text[at:], at, e)
	}
	return m, m.L[len(m.L)-2].L[2].L[0], m.L[len(m.L)-1].L[2].L[0]
}

// sameRuns asks whether the two statements do the same, within so many times as much fuel.
func sameRuns(t *testing.T, m, l, r T) bool {
	t.Helper()
	for _, a := range []int64{-3, 0, 1, 2, 5} {
		s := exec.Start(m, []int64{4, a, 0, 9}, 9000)
		s.Globals[0].N = a + 1
		args := []api.Value{{N: a}, {N: a & 1}, {L: []api.Value{{N: 8}, {N: a}}}, {L: []api.Value{{N: 6}, {N: 1}}}, {N: 1}}
		v, p, e := exec.Call(m, s, len(m.L)-2, args)
		w, q, f := exec.Call(m, s, len(m.L)-1, args)
		if e != api.OK || f != api.OK {
			t.Fatal(e, f)
		}
		n, k := 9000-p.Fuel, 9000-q.Fuel
		times := 2 + term.Size(l) + term.Size(r)
		p.Fuel, q.Fuel = 0, 0
		if !value.Same(v, w) || !reflect.DeepEqual(p, q) || n > (k+1)*times || k > (n+1)*times {
			return false
		}
	}
	return true
}

// changed is all terms that are t but for one thing.
func changed(t T) []T {
	var out []T
	for _, p := range term.Paths(t) {
		for _, change := range []func(x *T){func(x *T) { x.K = api.KExt }, func(x *T) { x.N += 100 }, func(x *T) { x.S = "s" }, func(x *T) { x.L = append(slices.Clone(x.L), T{K: api.KPrint, L: []T{{K: api.KNum}}}) }} {
			x, _ := term.At(t, p)
			change(&x)
			y, _ := term.Put(t, p, x)
			out = append(out, y)
		}
	}
	return out
}

// cases: which rules hold of which sides.
var cases = []struct {
	l, r  string
	rules []int
}{
	{"if b { print 1; } else { print 2; }", "if !b { print 2; } else { print 1; }", []int{api.IfInvert}}, {"if odd(a) { print 1; }", "if !odd(a) { } else { print 1; }", []int{api.IfInvert}}, {"if b { print 1; } else { print 2; }", "if !b { print 1; } else { print 2; }", nil}, {"if b { print 1; } else { print 2; }", "if b { print 2; } else { print 1; }", nil}, {"if !b { print 2; } else { print 1; }", "if b { print 1; } else { print 2; }", nil}, {"if !b { print 2; } else { print 1; }", "if !!b { print 1; } else { print 2; }", []int{api.IfInvert}},
	{"if true { print 1; return 5; } else { print 2; }", "{ print 1; return 5; }", []int{api.IfTrue}}, {"if true { } else { print 2; }", "{ }", []int{api.IfTrue}}, {"if false { print 1; } else { print 2; }", "{ print 1; }", nil}, {"if true { print 1; } else { print 2; }", "{ print 2; }", nil}, {"if b { print 1; }", "{ print 1; }", nil}, {"if 1 == 1 { print 1; }", "{ print 1; }", nil},
	{"if false { print 1; } else { let z = a; print z; }", "{ let z = a; print z; }", []int{api.IfFalse}}, {"if false { print 1; }", "{ }", []int{api.IfFalse}}, {"if true { print 1; } else { print 2; }", "{ print 2; }", nil},
	{"if b { a = 1; } else { a = 1; }", "{ a = 1; }", []int{api.IfSame}}, {"if b && g > 1 { return g; } else { return g; }", "{ return g; }", []int{api.IfSame}}, {"if odd(a) { a = 1; } else { a = 1; }", "{ a = 1; }", nil}, {"if b { a = 1; } else { a = 2; }", "{ a = 1; }", nil}, {"if b { } else { }", "{ }", []int{api.IfSame}}, {"if 1 / a == 1 { } else { }", "{ }", nil}, {"if true { } else { }", "{ }", []int{api.IfTrue, api.IfSame}}, {"if false { } else { }", "{ }", []int{api.IfFalse, api.IfSame}},
	{"while false { print 1; }", "{ }", []int{api.WhileFalse}}, {"while true { return 1; }", "{ }", nil}, {"while false { print 1; }", "{ print 1; }", nil}, {"while b { b = false; }", "{ }", nil},
	{"while a > 0 { a = a - 1; print a; }", "if a > 0 { { a = a - 1; print a; } while a > 0 { a = a - 1; print a; } }", []int{api.WhileUnroll}}, {"while odd(a) { let z = a; a = z + 1; }", "if odd(a) { { let z = a; a = z + 1; } while odd(a) { let z = a; a = z + 1; } }", []int{api.WhileUnroll}}, {"while a > 0 { a = a - 1; }", "if a > 0 { a = a - 1; while a > 0 { a = a - 1; } }", nil}, {"while a > 0 { a = a - 1; }", "if a > 0 { { a = a - 1; } while a > 1 { a = a - 1; } }", nil}, {"while a > 0 { a = a - 1; }", "if a > 0 { while a > 0 { a = a - 1; } { a = a - 1; } }", nil}, {"while a > 0 { a = a - 1; }", "if a > 0 { { a = a - 1; } while a > 0 { a = a - 1; } } else { print 1; }", nil}, {"while false { }", "if false { { } while false { } }", []int{api.WhileUnroll}},
	{"for k = 1 to 3 { print k; }", "{ let p = 1; let q = 3; while p < q { let k = p; { print k; } p = p + 1; } }", []int{api.ForWhile}}, {"for k = a to prints(i) + 3 { let z = k; k = k + a; print z; e[0] = k; for n = k to z { print n; } }", "{ let p = a; let q = prints(i) + 3; while p < q { let k = p; { let z = k; k = k + a; print z; e[0] = k; for n = k to z { print n; } } p = p + 1; } }", []int{api.ForWhile}}, {"for k = i to a { return k; }", "{ let p = i; let q = a; while p < q { let k = p; { return k; } p = p + 1; } }", []int{api.ForWhile}},
	{"for k = 1 to 3 { print k; }", "{ let p = 1; let q = 3; while p <= q { let k = p; { print k; } p = p + 1; } }", nil}, {"for k = 1 to 3 { print k; }", "{ let p = 1; let q = 3; while p < q { let k = p; print k; p = p + 1; } }", nil}, {"for k = 1 to 3 { print k; }", "{ let q = 3; let p = 1; while p < q { let k = p; { print k; } p = p + 1; } }", nil}, {"for k = 1 to 3 { print a; }", "{ let p = 1; let q = 3; while p < q { let k = p; { print k; } p = p + 1; } }", nil}, {"for k = a to i { print k; }", "{ let p = a; let q = p; while p < q { let k = p; { print k; } p = p + 1; } }", nil},
	{"print a;", "print a;", nil}, {"{ }", "{ }", nil},
}

func TestHolds(t *testing.T) {
	for _, c := range cases {
		m, l, r := stmts(t, c.l, c.r)
		for rule := -1; rule <= api.DropParam+2; rule++ {
			want := slices.Contains(c.rules, rule)
			if flow.Holds(rule, l, r) != want {
				t.Errorf("%q to %q by %d: not %v", c.l, c.r, rule, want)
			}
			if want && !sameRuns(t, m, l, r) {
				t.Errorf("%q to %q by %d: they do not do the same", c.l, c.r, rule)
			}
		}
	}
}

// TestShapes: whatever is changed in the right side, the rule does not hold.
func TestShapes(t *testing.T) {
	for _, c := range cases {
		_, l, r := stmts(t, c.l, c.r)
		for _, rule := range c.rules {
			for _, x := range changed(r) {
				if flow.Holds(rule, l, x) {
					t.Errorf("%q to %q by %d holds of %v", c.l, c.r, rule, x)
				}
			}
			for _, k := range []T{{K: l.K, N: 1, L: l.L}, {K: l.K, S: "s", L: l.L}, {K: l.K + 1, L: l.L}, {K: l.K, L: l.L[:len(l.L)-1]}, {K: l.K, L: append(slices.Clone(l.L), T{K: api.KBlock})}} {
				if flow.Holds(rule, k, r) {
					t.Errorf("%q to %q by %d holds from %v", c.l, c.r, rule, k)
				}
			}
		}
	}
	no := T{K: api.KBlock}
	for _, c := range []T{{K: api.KBlock}, {K: api.KInt}, {K: api.KLet}, {}} {
		not := T{K: api.KUn, N: api.OpNot, L: []T{c}}
		if flow.Holds(api.IfInvert, T{K: api.KIf, L: []T{c, no, no}}, T{K: api.KIf, L: []T{not, no, no}}) {
			t.Errorf("%v is no expression", c)
		}
		while := T{K: api.KWhile, L: []T{c, no}}
		if flow.Holds(api.WhileUnroll, while, T{K: api.KIf, L: []T{c, {K: api.KBlock, L: []T{no, while}}, no}}) {
			t.Errorf("%v is no expression", c)
		}
	}
	for _, c := range []T{{K: api.KNum}, {K: api.KName, S: "a"}} {
		not := T{K: api.KUn, N: api.OpNot, L: []T{c}}
		if !flow.Holds(api.IfInvert, T{K: api.KIf, L: []T{c, no, no}}, T{K: api.KIf, L: []T{not, no, no}}) {
			t.Errorf("%v is an expression", c)
		}
	}
	num := T{K: api.KNum, N: 1}
	for _, x := range []T{{K: api.KIf, L: []T{{K: api.KTruth, N: 1}, num, no}}, {K: api.KIf, L: []T{{K: api.KTruth, N: 1}, no, num}}, {K: api.KIf}, {K: api.KWhile}, {K: api.KWhile, L: []T{{K: api.KTruth}, num}}, {K: api.KFor}, {K: api.KIf, L: []T{{K: api.KTruth, N: 1, S: "s"}, no, no}}} {
		for rule := api.IfInvert; rule <= api.ForWhile; rule++ {
			if rule != api.IfInvert && rule != api.IfSame && flow.Holds(rule, x, no) || flow.Holds(rule, x, num) {
				t.Errorf("rule %d of %v", rule, x)
			}
		}
	}
}

func TestLoop(t *testing.T) {
	for _, c := range cases {
		_, l, r := stmts(t, c.l, c.r)
		x, ok := flow.Loop(l)
		if ok != (l.K == api.KFor) || !ok && !reflect.DeepEqual(x, T{}) || slices.Contains(c.rules, api.ForWhile) && !term.Same(x, r) {
			t.Errorf("%q: %v %v", c.l, x, ok)
		}
	}
	loc := func(n int64) T { return T{K: api.KLocal, N: n} }
	one, three := T{K: api.KNum, N: 1}, T{K: api.KNum, N: 3}
	x, ok := flow.Loop(T{K: api.KFor, L: []T{one, three, {K: api.KBlock, L: []T{{K: api.KPrint, L: []T{loc(0)}}}}}})
	want := T{K: api.KBlock, L: []T{{K: api.KLet, L: []T{one}}, {K: api.KLet, L: []T{three}}, {K: api.KWhile, L: []T{
		{K: api.KBin, N: api.OpLt, L: []T{loc(1), loc(0)}},
		{K: api.KBlock, L: []T{{K: api.KLet, L: []T{loc(1)}}, {K: api.KBlock, L: []T{{K: api.KPrint, L: []T{loc(0)}}}}, {K: api.KSet, L: []T{loc(2), {K: api.KBin, N: api.OpAdd, L: []T{loc(2), one}}}}}}}}}}
	if !ok || !term.Same(x, want) {
		t.Error("the example", x)
	}
	x, _ = flow.Loop(T{K: api.KFor, L: []T{loc(0), loc(4), {K: api.KBlock, N: 7, L: []T{{K: api.KPrint, L: []T{loc(5)}}}}}})
	if x.L[0].L[0].N != 0 || x.L[1].L[0].N != 5 || x.L[2].L[1].L[1].N != 7 || x.L[2].L[1].L[1].L[0].L[0].N != 7 {
		t.Error("raised numbers", x)
	}
	for _, y := range []T{{}, {K: api.KFor}, {K: api.KFor, L: []T{one, one, one}}, {K: api.KFor, N: 1, L: []T{one, one, {K: api.KBlock}}}, {K: api.KFor, S: "i", L: []T{one, one, {K: api.KBlock}}}, {K: api.KFor, L: []T{one, {K: api.KBlock}}}, {K: api.KFor, L: []T{one, one, {K: api.KBlock}, one}}, {K: api.KWhile, L: []T{one, one, {K: api.KBlock}}}} {
		if x, ok := flow.Loop(y); ok || !reflect.DeepEqual(x, T{}) {
			t.Errorf("%v is a loop", y)
		}
	}
}
