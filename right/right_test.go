package right_test

import (
	"reflect"
	"strings"
	"testing"

	"notary/api"
	"notary/right"
	"notary/scope"
	"notary/shift"
	"notary/term"
	"notary/unit"
)

type T = api.Term

const big = `rec R { o: int; p: [2]bool; } const c = 7; const d = true; var v: [3]R; var n: int;
pub fn f(a: int, b: [2]bool): bool { let x = a + c; let y: R; y.o = x; y.p[0] = d; v[1] = y; if y.p[a] { return b[0]; } else { let z = v[0].o; n = z; } for i = a to n { let w = i; print w; print i < 3; { let q = w; do g(q); } } while d && n > 0 { n = n - read; } return !d; }
fn g(a: int): R { do f(a, [d, false]); return new R(-a, [true, d]); }`

func TestRead(t *testing.T) {
	named, settled, at, e := right.Read(big)
	if e != api.OK || at != 0 {
		t.Fatal(at, e)
	}
	parsed, _, _ := unit.Parse(big)
	if !reflect.DeepEqual(named, parsed) || !right.Right(settled) || right.Right(named) {
		t.Error("the named module, the settled one")
	}
	resolved, _, _ := scope.Resolve(named)
	made, at, e := right.Module(resolved)
	if e != api.OK || at != 0 || !reflect.DeepEqual(made, settled) {
		t.Error("not what Module tells", at, e)
	}
	again, _, e := right.Module(settled)
	if e != api.OK || !reflect.DeepEqual(again, settled) {
		t.Error("a settled module is settled", e)
	}
	for _, p := range term.Paths(named) {
		x, _ := term.At(named, p)
		y, ok := term.At(settled, p)
		if !ok || y.S != "" || y.From != 0 || y.To != 0 || len(x.L) != len(y.L) {
			t.Errorf("%v became %v", x, y)
		}
	}
	if x, _ := term.At(settled, []int{5, 2, 2, 0}); x.K != api.KField || x.N != 0 {
		t.Error("a field's number", x)
	}
	if x, _ := term.At(settled, []int{5, 2, 3, 0, 0}); x.K != api.KField || x.N != 1 {
		t.Error("a field's number", x)
	}
	if named, settled, at, e := right.Read(""); e != api.OK || at != 0 || !term.Same(named, settled) || settled.K != api.KModule {
		t.Error("an empty text")
	}
}

func TestErrors(t *testing.T) {
	for _, c := range []struct {
		text, at string
		e        api.Errno
	}{
		{"fn f(): int { return true; }", "true", api.ErrType}, {"rec R { a: int; } pub fn f(a: R): int { }", "R)", api.ErrPlace}, {"fn f(): int { 1 = 2; }", "1 =", api.ErrPlace}, {"var a: [17]int;", "[17]int", api.ErrSize},
		{"var a: [0]int;", "[0]", api.ErrSize}, {"var a: [5][13]int;", "[5]", api.ErrSize}, {"rec R { a: R; }", "rec", api.ErrSize}, {"rec R { a: [5][13]int; }", "rec", api.ErrSize}, {"rec A { b: B; } rec B { a: A; }", "rec", api.ErrSize},
		{"fn f(a: int, b: [0]int): [0]int { }", "[0]", api.ErrSize}, {"fn f(a: int): [17]int { }", "[17]", api.ErrSize}, {"rec R { a: int; } pub fn f(a: int): [2]R { }", "[2]R", api.ErrPlace}, {"rec R { a: int; } pub fn f(a: R, b: [0]int): int { }", "[0]int", api.ErrSize}, {"rec R { a: int; } pub fn f(a: int, b: [2]R): R { }", "[2]R", api.ErrPlace},
		{"fn f(): int { let a = 1 + true; }", "1 + true", api.ErrType}, {"fn f(): int { let a: [17]int; }", "[17]", api.ErrSize}, {"fn f(): int { let a = [1, true]; }", "[1", api.ErrType},
		{"fn f(a: int): int { a = true; }", "a = true", api.ErrType}, {"fn f(a: int): int { f(a) = 1; }", "f(a) =", api.ErrPlace}, {"fn f(a: int): int { f(a) = true; }", "f(a) =", api.ErrPlace}, {"const c = 1; fn f(): int { c = 1; }", "c = 1; }", api.ErrPlace}, {"fn f(a: [2]int): int { a[true] = a + 1; }", "a[true]", api.ErrType}, {"fn f(a: [2]int): int { a[0] = a + 1; }", "a + 1", api.ErrType}, {"fn f(a: [2]int): int { [1, 2][0] = 1; }", "[1, 2]", api.ErrPlace}, {"fn f(a: int): int { 1 = a + true; }", "a + true", api.ErrType},
		{"fn f(): int { if 1 { return true; } }", "1 {", api.ErrType}, {"fn f(): int { if true { return true; } else { return false; } }", "true; }", api.ErrType}, {"fn f(): int { if true { } else { return false; } }", "false", api.ErrType}, {"fn f(): int { while 1 { print f; } }", "f; }", api.ErrName}, {"fn f(): int { while 1 { return true; } }", "1 {", api.ErrType}, {"fn f(): int { while true { return true; } }", "true; }", api.ErrType},
		{"fn f(): int { for i = true to 1 + true { } }", "true to", api.ErrType}, {"fn f(): int { for i = 1 to true { return true; } }", "true {", api.ErrType}, {"fn f(): int { for i = 1 to 2 { return !i; } }", "!i", api.ErrType}, {"fn f(): int { for i = 1 to 2 { i = true; } }", "i = true", api.ErrType},
		{"fn f(a: [2]int): int { print a; }", "a; }", api.ErrType}, {"fn f(): int { print 1 + true; }", "1 +", api.ErrType}, {"fn f(): bool { return 1; }", "1", api.ErrType}, {"fn f(): [2]int { return [1]; }", "[1]", api.ErrType}, {"fn f(): int { do 1; }", "1", api.ErrPlace}, {"fn f(): int { do f(1); }", "f(1)", api.ErrType}, {"fn f(): int { do read; }", "read", api.ErrPlace}, {"fn f(): int { do @f(); }", "@f", api.ErrPlace}, {"fn f(): int { return @f(); }", "@f", api.ErrName},
		{"fn f(): int { let a = 1; { let b = true; } a = true; }", "a = true", api.ErrType}, {"fn f(a: bool): int { let a = 1; return a; } fn g(b: bool): int { return b; }", "b; }", api.ErrType},
		{"fn f(): int { return x; }", "x", api.ErrName}, {"fn f( { }", "{", api.ErrToken}, {"var a: int; &", "&", api.ErrChar}, {"fn f(): bool { return true; } fn g(): int { return f(); } fn h(): int { return true; }", "f(); } fn h", api.ErrType}, {"rec R { a: int; } fn f(a: R): int { return a.b; }", "a.b", api.ErrName},
	} {
		at := strings.LastIndex(c.text, c.at)
		if strings.Count(c.text, c.at) > 1 {
			at = strings.Index(c.text, c.at)
		}
		n, s, place, e := right.Read(c.text)
		if place != at || e != c.e || !reflect.DeepEqual(n, T{}) || !reflect.DeepEqual(s, T{}) {
			t.Errorf("%q: %d %d, not %d %d", c.text, place, e, at, c.e)
		}
	}
}

// TestFine: what is right although it looks odd.
func TestFine(t *testing.T) {
	for _, text := range []string{
		"fn f(): int { }", "fn f(): int { return f(); print 1; return 2; }", "rec A { b: B; } rec B { a: int; } fn f(a: A): B { return a.b; }", "var a: [16][4]int;", "fn f(a: [2][3]int): [3]int { a[0][1] = 1; return a[1]; }", "pub fn f(a: [2]bool): [2]int { return [1, 2]; }",
		"fn f(a: int): int { let a = a < 1; if a { let a = [1]; print a[0]; } print a; return 1; }", "fn f(): int { for i = 1 to 2 { i = 5; } return 1 / 0; }", "fn f(a: [2]int): int { a = [3, 4]; return a[9]; }", "const c = true; fn f(): bool { return c && read == 1; }", "const c = false; fn f(): bool { return c; }",
	} {
		if _, s, at, e := right.Read(text); e != api.OK || !right.Right(s) {
			t.Errorf("%q: %d %d", text, at, e)
		}
	}
}

// TestHandMade: modules that no text is read as.
func TestHandMade(t *testing.T) {
	block := func(l ...T) T { return T{K: api.KBlock, L: l} }
	fn := func(b T) T {
		return T{K: api.KFn, L: []T{{K: api.KParams}, {K: api.KInt}, b}}
	}
	stmt := func(s T) T { s.From = 9; return T{K: api.KModule, L: []T{fn(block(s))}} }
	one, yes := T{K: api.KNum, N: 1, From: 30}, T{K: api.KTruth, N: 1}
	for _, c := range []struct {
		m  T
		at int
	}{
		{T{From: 3}, 3}, {T{K: api.KBlock, From: 4}, 4}, {T{K: api.KModule, L: []T{{K: api.KNum, From: 5}}}, 5}, {T{K: api.KModule, L: []T{{K: api.KRecord, From: 5}}}, 5}, {T{K: api.KModule, L: []T{{K: api.KRecord, From: 5, L: []T{{K: api.KPart}}}}}, 5}, {T{K: api.KModule, L: []T{{K: api.KRecord, From: 5, L: []T{{K: api.KVar, L: []T{{K: api.KInt}}}}}}}, 5},
		{T{K: api.KModule, L: []T{{K: api.KDefine, From: 5}}}, 5}, {T{K: api.KModule, L: []T{{K: api.KDefine, From: 5, L: []T{{K: api.KTruth, N: 2}}}}}, 5}, {T{K: api.KModule, L: []T{{K: api.KDefine, From: 5, L: []T{{K: api.KNum, L: []T{one}}}}}}, 5}, {T{K: api.KModule, L: []T{{K: api.KDefine, From: 5, L: []T{{K: api.KRead}}}}}, 5}, {T{K: api.KModule, L: []T{{K: api.KVar, From: 5}}}, 5}, {T{K: api.KModule, L: []T{{K: api.KVar, From: 5, L: []T{{K: api.KInt}, {K: api.KInt}}}}}, 5},
		{T{K: api.KModule, L: []T{{K: api.KFn, From: 5}}}, 5}, {T{K: api.KModule, L: []T{{K: api.KFn, N: 2, From: 5, L: fn(block()).L}}}, 5}, {T{K: api.KModule, L: []T{{K: api.KFn, From: 5, L: []T{{K: api.KBlock}, {K: api.KInt}, block()}}}}, 5}, {T{K: api.KModule, L: []T{{K: api.KFn, From: 5, L: []T{{K: api.KParams, L: []T{{K: api.KPart}}}, {K: api.KInt}, block()}}}}, 5}, {T{K: api.KModule, L: []T{{K: api.KFn, From: 5, L: []T{{K: api.KParams}, {K: api.KInt}, {K: api.KIf}}}}}, 5},
		{stmt(T{K: api.KNum}), 9}, {stmt(T{}), 9}, {stmt(T{K: api.KLet}), 9}, {stmt(T{K: api.KNew}), 9}, {stmt(T{K: api.KLet, L: []T{one, one}}), 9}, {stmt(T{K: api.KSet, L: []T{one}}), 9}, {stmt(T{K: api.KIf, L: []T{yes, block()}}), 9}, {stmt(T{K: api.KIf, L: []T{{}, block(), one}}), 9}, {stmt(T{K: api.KIf, L: []T{{}, one, block()}}), 9}, {stmt(T{K: api.KWhile, L: []T{{}, one}}), 9}, {stmt(T{K: api.KWhile, L: []T{yes}}), 9}, {stmt(T{K: api.KFor, L: []T{one, one, one}}), 9}, {stmt(T{K: api.KFor, L: []T{one, block()}}), 9}, {stmt(T{K: api.KPrint}), 9}, {stmt(T{K: api.KReturn, L: []T{one, one}}), 9}, {stmt(T{K: api.KDo}), 9}, {stmt(T{K: api.KDo, L: []T{one}}), 30}, {stmt(T{K: api.KPrint, L: []T{{From: 31}}}), 31},
	} {
		m, at, e := right.Module(c.m)
		if at != c.at || e != api.ErrPlace || !reflect.DeepEqual(m, T{}) || right.Right(c.m) {
			t.Errorf("%v: %d %d", c.m, at, e)
		}
	}
	two := T{K: api.KModule, L: []T{{K: api.KFn, L: []T{{K: api.KParams, L: []T{{K: api.KPart, L: []T{{K: api.KInt}}}}}, {K: api.KInt}, block()}}, fn(block(T{K: api.KReturn, L: []T{{K: api.KLocal, From: 8}}}))}}
	if _, at, e := right.Module(two); at != 8 || e != api.ErrName {
		t.Error("another function's parameter", at, e)
	}
	for _, l := range [][]T{{{K: api.KVar, L: []T{{K: api.KNum, From: 6}}}}, {{K: api.KVar, L: []T{{K: api.KRec, N: 7, From: 6}}}}, {{K: api.KFn, L: []T{{K: api.KParams}, {K: api.KRec, From: 6}, block()}}}} {
		if _, at, e := right.Module(T{K: api.KModule, L: l}); at != 6 || e != api.ErrSize {
			t.Errorf("%v: %d %d", l, at, e)
		}
	}
}

// TestRight: one name or place, wherever it stands, and a module is right no more.
func TestRight(t *testing.T) {
	_, settled, _, _ := right.Read(big)
	for _, p := range term.Paths(settled) {
		for _, change := range []func(x *T){func(x *T) { x.S = "s" }, func(x *T) { x.From = 1 }, func(x *T) { x.To = 1 }, func(x *T) { x.K = -1 }, func(x *T) { x.L = append(x.L[:len(x.L):len(x.L)], T{K: api.KDefine}) }} {
			x, _ := term.At(settled, p)
			change(&x)
			if m, _ := term.Put(settled, p, x); right.Right(m) {
				t.Errorf("%v: %v may not stand there", p, x)
			}
		}
	}
	if !right.Right(T{K: api.KModule}) || right.Right(T{}) {
		t.Error("an empty module, and none")
	}
}

func TestLocals(t *testing.T) {
	_, m, _, _ := right.Read(big)
	integer, truth, r := T{K: api.KInt}, T{K: api.KBool}, T{K: api.KRec}
	pair := T{K: api.KArr, N: 2, L: []T{truth}}
	for _, c := range []struct {
		path []int
		want []T
	}{
		{nil, nil}, {[]int{0}, nil}, {[]int{0, 1, 0}, nil}, {[]int{5}, nil}, {[]int{5, 0}, nil}, {[]int{5, 0, 1, 0}, nil}, {[]int{5, 1}, nil}, {[]int{5, 2}, []T{integer, pair}}, {[]int{5, 2, 0, 0}, []T{integer, pair}}, {[]int{5, 2, 1}, []T{integer, pair, integer}}, {[]int{5, 2, 2}, []T{integer, pair, integer, r}},
		{[]int{5, 2, 5, 2, 1}, []T{integer, pair, integer, r, integer}}, {[]int{5, 2, 6, 0}, []T{integer, pair, integer, r}}, {[]int{5, 2, 6, 1}, []T{integer, pair, integer, r}}, {[]int{5, 2, 6, 2}, []T{integer, pair, integer, r, integer}}, {[]int{5, 2, 6, 2, 3, 1, 0}, []T{integer, pair, integer, r, integer, integer, integer}}, {[]int{5, 2, 8}, []T{integer, pair, integer, r}}, {[]int{6, 2, 1}, []T{integer}},
	} {
		l, ok := right.Locals(m, c.path)
		if !ok || len(l) != len(c.want) || len(l) > 0 && !reflect.DeepEqual(l, c.want) {
			t.Errorf("%v: %v %v", c.path, l, ok)
		}
	}
	_, fields, _, _ := right.Read("rec R { a: int; b: int; c: bool; } fn f(x: R): int { }")
	for _, p := range [][]int{{0}, {0, 2}, {0, 2, 0}} {
		if l, ok := right.Locals(fields, p); !ok || len(l) != 0 {
			t.Errorf("a record's part %v: %v", p, l)
		}
	}
	for _, p := range [][]int{{7}, {-1}, {5, 3}, {5, 2, 9}, {5, 2, 0, 0, 0, 0}, {0, 0, 0, 0}} {
		if l, ok := right.Locals(m, p); ok || len(l) != 0 {
			t.Errorf("%v leads somewhere", p)
		}
	}
}

// TestLocalsHoldAll: each local that stands at a path is one of those there.
func TestLocalsHoldAll(t *testing.T) {
	_, m, _, _ := right.Read(big)
	for _, p := range term.Paths(m) {
		l, ok := right.Locals(m, p)
		x, _ := term.At(m, p)
		if !ok || x.K == api.KLocal && x.N >= int64(len(l)) {
			t.Errorf("%v: %v", p, l)
		}
		for at := len(l); at < len(l)+3; at++ {
			if shift.Mentions(x, at) {
				t.Errorf("%v mentions %d", p, at)
			}
		}
	}
}

func TestWhateverTermEnds(t *testing.T) {
	for k := -1; k <= api.KModule+1; k++ {
		for _, l := range [][]T{nil, {{}}, {{K: k}, {K: k}, {K: k, L: []T{{K: k}}}}, {{K: api.KParams, L: []T{{}}}, {}, {K: api.KBlock, L: []T{{K: k}, {}}}}} {
			m := T{K: api.KModule, L: []T{{K: k, L: l}, {K: api.KFn, L: []T{{}, {}, {K: k, L: l}}}}}
			right.Right(m)
			for _, p := range term.Paths(m) {
				if _, ok := right.Locals(m, p); !ok {
					t.Errorf("%v leads nowhere", p)
				}
			}
		}
	}
}
