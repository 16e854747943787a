package scope_test

import (
	"reflect"
	"strings"
	"testing"

	"notary/api"
	"notary/scope"
	"notary/term"
	"notary/unit"
)

func parse(t *testing.T, text string) api.Term {
	t.Helper()
	m, at, e := unit.Parse(text)
	if e != api.OK {
		t.Fatalf("%q: %d %d", text, at, e)
	}
	return m
}

// uses tells, in the order of the text, what each expression's name stands for.
func uses(m api.Term) string {
	var l []string
	letters := map[int]string{api.KLocal: "l", api.KConst: "c", api.KGlobal: "g", api.KCall: "f", api.KMake: "m", api.KRec: "r"}
	for _, p := range term.Paths(m) {
		x, _ := term.At(m, p)
		if s := letters[x.K]; s != "" {
			l = append(l, s+string(rune('0'+x.N)))
		}
	}
	return strings.Join(l, " ")
}

func TestResolve(t *testing.T) {
	for _, c := range []struct{ text, want string }{
		{"fn f(a: int, b: int): int { let a = a + b; return a; }", "l1 l0 l0"},
		{"fn f(): int { return g(h, v); } var v: int; const h = 1; fn g(a: int, b: int): int { return f(); }", "f3 c2 g1 f0"},
		{"var v: int; fn f(v: int): int { let v = v; { let v = v; v = v; } return v; }", "l0 l0 l0 l0 l0"},
		{"fn f(a: int): int { let b = a; { let c = b; print a; print c; } print a; print b; }", "l0 l0 l2 l0 l1 l0"},
		{"fn f(a: int): int { for i = a to a { print i; print a; } print a; }", "l0 l0 l0 l1 l0"},
		{"fn f(a: int): int { let x: int; x = a; let y: R; return x; } rec R { a: S; } rec S { b: [2]int; }", "l0 l1 r1 l1 r2"},
		{"rec R { a: int; } fn f(R: R): R { let f = new R(R.a); return f(f); }", "r0 r0 m0 l0 f1 l0"},
		{"var i: int; fn f(): int { for i = i to i { i = i; } i = i; }", "g0 g0 l0 l0 g0 g0"},
		{"fn f(a: bool): int { if a { let b = a; print b; } else { let c = a; let d = c; print d; } while a { let b = a; } print a; }", "l0 l0 l0 l0 l0 l0 l0 l0 l0"},
		{"const c = 1; fn f(): int { let c = c; print c; return [c, f()][c]; }", "c0 l0 l0 f1 l0"},
	} {
		m := parse(t, c.text)
		kept := parse(t, c.text)
		r, at, e := scope.Resolve(m)
		if e != api.OK || at != 0 || uses(r) != c.want {
			t.Errorf("%q: %s, %d %d", c.text, uses(r), at, e)
		}
		if !reflect.DeepEqual(m, kept) {
			t.Errorf("%q is changed", c.text)
		}
	}
}

// TestShape: a resolved module has the shape, the kinds, the numbers and the places of the named one, and no names but those of fields and of what clients call.
func TestShape(t *testing.T) {
	text := "rec R { a: int; b: [2]bool; } const c = 7; var v: R; pub fn f(p: int, q: R): int { let x = p; let y: R; y.b[1] = q.b[c - 7]; if true { } else { v.a = -1; } for i = 1 to 2 { do f(i, new R(1, [true, false])); } while false { print @ext(x); } return read; }"
	m := parse(t, text)
	r, _, e := scope.Resolve(m)
	if e != api.OK {
		t.Fatal(e)
	}
	for _, p := range term.Paths(m) {
		x, _ := term.At(m, p)
		y, ok := term.At(r, p)
		named := x.K == api.KName
		if !ok || x.From != y.From || x.To != y.To || len(x.L) != len(y.L) || (x.K != y.K) != named {
			t.Errorf("%v became %v", x, y)
		}
		switch {
		case x.K == api.KField, x.K == api.KExt, x.K == api.KPart && p[0] == 0:
			if x.S != y.S || x.N != y.N {
				t.Errorf("%v became %v", x, y)
			}
		case y.S != "":
			t.Errorf("%v has a name", y)
		case !named && x.K != api.KCall && x.K != api.KMake && x.K != api.KRec && x.N != y.N:
			t.Errorf("%v became %v", x, y)
		}
	}
}

// TestOtherNames: unlike names lead to the same; fields apart.
func TestOtherNames(t *testing.T) {
	text := "var aa: int; const bb = 1; fn cc(dd: int): int { let ee = dd + bb; for ff = ee to aa { let dd = ff; print dd; } return cc(ee); }"
	one, _, _ := scope.Resolve(parse(t, text))
	for _, turn := range []*strings.Replacer{strings.NewReplacer("aa", "x1", "bb", "x2", "cc", "x3", "dd", "x4", "ee", "x5", "ff", "x6"), strings.NewReplacer("aa", "bb", "bb", "aa", "cc", "dd", "dd", "cc", "ee", "ff", "ff", "ee")} {
		two, _, e := scope.Resolve(parse(t, turn.Replace(text)))
		if e != api.OK || !reflect.DeepEqual(one, two) {
			t.Errorf("%q: %v", turn.Replace(text), two)
		}
	}
}

func TestErrors(t *testing.T) {
	for _, c := range []struct {
		text string
		at   int
		e    api.Errno
	}{
		{"const x = 1; fn f(): int { return f; }", 34, api.ErrName},
		{"var a: int; fn a(): int { }", 12, api.ErrTwice}, {"rec a { x: int; } const a = 1;", 18, api.ErrTwice}, {"var a: int; var b: X; var a: int; var b: int;", 22, api.ErrTwice}, {"fn f(): int { return x; } var b: int; var b: int;", 38, api.ErrTwice},
		{"rec R { a: int; b: int; a: int; }", 24, api.ErrTwice}, {"rec R { a: X; a: int; }", 11, api.ErrName}, {"rec R { a: int; a: X; }", 16, api.ErrTwice}, {"fn f(a: int, b: int, a: int): int { }", 21, api.ErrTwice}, {"fn f(a: X, a: int): int { }", 8, api.ErrName},
		{"fn f(): X { return y; }", 8, api.ErrName}, {"var v: [2]X;", 10, api.ErrName}, {"var v: v;", 7, api.ErrName}, {"const c = 1; var v: c;", 20, api.ErrName},
		{"fn f(): int { let a = a; }", 22, api.ErrName}, {"fn f(): int { { let a = 1; } return a; }", 36, api.ErrName}, {"fn f(): int { for i = i to 1 { } }", 22, api.ErrName}, {"fn f(): int { for i = 1 to i { } }", 27, api.ErrName}, {"fn f(): int { for i = 1 to 2 { } print i; }", 39, api.ErrName},
		{"fn f(): int { return g(x); }", 21, api.ErrName}, {"fn f(): int { return f(x); }", 23, api.ErrName}, {"var v: int; fn f(): int { return v(x); }", 33, api.ErrName}, {"fn f(g: int): int { return g(); }", 27, api.ErrName}, {"fn f(): int { return new f(x); }", 21, api.ErrName}, {"rec R { a: int; } fn f(): int { return new R(R); }", 45, api.ErrName}, {"rec R { a: int; } fn f(): int { return R; }", 39, api.ErrName},
		{"fn f(): int { x = y; }", 14, api.ErrName}, {"fn f(): int { let x: Y; x = 1; }", 21, api.ErrName}, {"fn f(): int { if x { y = 1; } }", 17, api.ErrName}, {"fn f(): int { return @g(x); }", 24, api.ErrName}, {"fn f(a: int): int { return a; } fn g(): int { return a; }", 53, api.ErrName},
	} {
		r, at, e := scope.Resolve(parse(t, c.text))
		if at != c.at || e != c.e || !reflect.DeepEqual(r, api.Term{}) {
			t.Errorf("%q: %d %d", c.text, at, e)
		}
	}
}

func TestWhateverTermEnds(t *testing.T) {
	for k := -1; k <= api.KModule+1; k++ {
		for _, l := range [][]api.Term{nil, {{}}, {{K: api.KParams, L: []api.Term{{}}}, {}}, {{K: k}, {K: k}, {K: k}, {K: k}}} {
			x := api.Term{K: k, S: "s", L: l}
			scope.Resolve(x)
			scope.Resolve(api.Term{K: api.KModule, L: []api.Term{x}})
			scope.Resolve(api.Term{K: api.KModule, L: []api.Term{{K: api.KFn, L: []api.Term{x, x, {K: api.KBlock, L: []api.Term{x, x}}}}}})
		}
	}
}
