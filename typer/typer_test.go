package typer_test

import (
	"math"
	"reflect"
	"testing"

	"notary/api"
	"notary/term"
	"notary/typer"
)

type T = api.Term

var (
	integer = T{K: api.KInt}
	truth   = T{K: api.KBool}
	none    = T{}
)

func of(k int, n int64, l ...T) T { return T{K: k, N: n, L: l} }
func num(n int64) T               { return of(api.KNum, n) }
func tf(n int64) T                { return of(api.KTruth, n) }
func local(n int64) T             { return of(api.KLocal, n) }
func bin(op int64, a, b T) T      { return of(api.KBin, op, a, b) }
func un(op int64, a T) T          { return of(api.KUn, op, a) }
func index(a, b T) T              { return of(api.KIndex, 0, a, b) }
func list(l ...T) T               { return of(api.KList, 0, l...) }
func arr(n int64, t T) T          { return of(api.KArr, n, t) }
func rec(n int64) T               { return of(api.KRec, n) }
func field(n int64, a T) T        { return of(api.KField, n, a) }
func named(s string, a T) T       { return T{K: api.KField, S: s, L: []T{a}} }
func part(s string, t T) T        { return T{K: api.KPart, S: s, L: []T{t}} }

// module: 0 a global, 1 a number, 2 a truth, 3 a record, 4 a function of an int and an array, 5 a record of that record, 6 and on what is no such declaration.
func module() T {
	wide := of(api.KRecord, 0)
	for i := range 66 {
		wide.L = append(wide.L, part(string(rune('A'+i)), integer))
	}
	return of(api.KModule, 0,
		of(api.KVar, 0, T{K: api.KArr, N: 2, From: 5, To: 9, L: []T{{K: api.KInt, From: 8, To: 9}}}),
		of(api.KDefine, 0, num(7)), of(api.KDefine, 0, tf(1)),
		of(api.KRecord, 0, part("o", integer), part("p", integer)),
		of(api.KFn, 0, of(api.KParams, 0, part("", integer), part("", arr(2, integer))), T{K: api.KBool, From: 3, To: 7}, of(api.KBlock, 0)),
		of(api.KRecord, 0, part("p", rec(3)), part("q", truth)),
		of(api.KVar, 0), of(api.KDefine, 0, local(0)), of(api.KFn, 0, of(api.KParams, 0), integer), of(api.KRecord, 0), of(api.KRecord, 0, integer), of(api.KRecord, 0, of(api.KPart, 0)), of(api.KDefine, 0),
		wide)
}

var locals = []T{rec(5), arr(2, arr(3, truth)), rec(3), integer, truth, rec(13)}

func TestTypes(t *testing.T) {
	a, b, r, s := local(2), local(1), local(3), local(5)
	for _, c := range []struct{ t, kind T }{
		{num(-3), integer}, {tf(0), truth}, {tf(1), truth}, {a, integer}, {b, truth}, {local(4), arr(2, arr(3, truth))}, {of(api.KConst, 1), integer}, {of(api.KConst, 2), truth}, {of(api.KGlobal, 0), arr(2, integer)}, {of(api.KRead, 0), integer},
		{bin(api.OpOr, b, tf(1)), truth}, {bin(api.OpAnd, b, b), truth}, {bin(api.OpEq, a, num(1)), truth}, {bin(api.OpEq, b, b), truth}, {bin(api.OpNe, a, a), truth}, {bin(api.OpNe, b, tf(0)), truth}, {bin(api.OpLt, a, a), truth}, {bin(api.OpLe, a, a), truth}, {bin(api.OpGt, a, a), truth}, {bin(api.OpGe, a, a), truth},
		{bin(api.OpAdd, a, a), integer}, {bin(api.OpSub, a, a), integer}, {bin(api.OpMul, a, a), integer}, {bin(api.OpDiv, a, a), integer}, {bin(api.OpRem, a, a), integer}, {un(api.OpNeg, a), integer}, {un(api.OpNot, b), truth},
		{index(local(4), a), arr(3, truth)}, {index(index(local(4), a), num(99)), truth}, {field(192, r), integer}, {field(193, r), integer}, {field(320, s), rec(3)}, {field(193, field(320, s)), integer}, {field(64*13+63, local(0)), integer},
		{list(a, num(2)), arr(2, integer)}, {list(list(b)), arr(1, arr(1, truth))}, {list(r, r), arr(2, rec(3))}, {of(api.KMake, 3, a, num(1)), rec(3)}, {of(api.KMake, 5, r, b), rec(5)}, {of(api.KCall, 4, a, of(api.KGlobal, 0)), truth}, {of(api.KCall, 4, num(1), list(num(1), num(2))), truth},
	} {
		kind, settled, at, e := typer.Of(module(), locals, c.t)
		if e != api.OK || at != 0 || !reflect.DeepEqual(kind, c.kind) || !term.Same(settled, c.t) {
			t.Errorf("%v: %v %v %d %d", c.t, kind, settled, at, e)
		}
		kind2, again, _, e := typer.Of(module(), append([]T{truth, integer}, locals...), settled)
		if e != api.OK || !reflect.DeepEqual(kind2, kind) || !reflect.DeepEqual(again, settled) {
			t.Errorf("%v: settled again %v %v", c.t, kind2, again)
		}
	}
}

// TestSettled: names of fields become numbers, and places and names go.
func TestSettled(t *testing.T) {
	x := T{K: api.KField, S: "p", N: 9, From: 1, To: 2, L: []T{{K: api.KField, S: "p", From: 3, To: 4, L: []T{{K: api.KLocal, N: 5, S: "x", From: 5, To: 6}}}}}
	kind, settled, _, e := typer.Of(module(), locals, x)
	if e != api.OK || !reflect.DeepEqual(kind, integer) || !reflect.DeepEqual(settled, field(193, field(320, local(5)))) {
		t.Error(kind, settled, e)
	}
	if _, s, _, e := typer.Of(module(), locals, named(string(rune('A'+63)), local(0))); e != api.OK || s.N != 13*64+63 {
		t.Error("the last field that has a number", s, e)
	}
	if _, _, _, e := typer.Of(module(), locals, named(string(rune('A'+64)), local(0))); e != api.ErrName {
		t.Error("the first field that has none", e)
	}
	k, s, _, e := typer.Of(module(), []T{{K: api.KArr, N: 1, From: 4, To: 6, L: []T{{K: api.KInt, N: 5, From: 2}}}}, un(api.OpNeg, index(local(0), num(0))))
	if e != api.OK || !reflect.DeepEqual(k, T{K: api.KInt, N: 5}) || !term.Same(s, un(api.OpNeg, index(local(0), num(0)))) {
		t.Error("the type of the part", k, s, e)
	}
	if k, _, _, _ := typer.Of(module(), []T{{K: api.KInt, N: 5}}, bin(api.OpAdd, local(0), num(1))); !reflect.DeepEqual(k, integer) {
		t.Error("an int of its own", k)
	}
}

func TestErrors(t *testing.T) {
	bad, worse := local(77), of(api.KNum, 0, num(1))
	bad.From, worse.From = 50, 60
	at := func(from int, x T) T { x.From = from; return x }
	for _, c := range []struct {
		t  T
		at int
		e  api.Errno
	}{
		{none, 0, api.ErrPlace}, {at(3, T{K: api.KName, S: "a"}), 3, api.ErrPlace}, {T{K: -1}, 0, api.ErrPlace}, {T{K: api.KLet}, 0, api.ErrPlace}, {integer, 0, api.ErrPlace}, {worse, 60, api.ErrPlace}, {of(api.KTruth, 0, num(1)), 0, api.ErrPlace}, {tf(2), 0, api.ErrPlace}, {tf(-1), 0, api.ErrPlace}, {of(api.KLocal, 77, num(1)), 0, api.ErrPlace}, {of(api.KConst, 1, num(1)), 0, api.ErrPlace}, {of(api.KGlobal, 0, num(1)), 0, api.ErrPlace}, {of(api.KRead, 0, num(1)), 0, api.ErrPlace},
		{of(api.KUn, 1), 0, api.ErrPlace}, {of(api.KUn, 1, num(1), num(1)), 0, api.ErrPlace}, {un(0, bad), 0, api.ErrPlace}, {un(3, num(1)), 0, api.ErrPlace}, {of(api.KBin, 1, bad), 0, api.ErrPlace}, {of(api.KBin, 9, num(1), num(1), num(1)), 0, api.ErrPlace}, {bin(0, num(1), num(1)), 0, api.ErrPlace}, {bin(14, num(1), num(1)), 0, api.ErrPlace}, {bin(math.MinInt64, num(1), num(1)), 0, api.ErrPlace}, {of(api.KIndex, 0, bad), 0, api.ErrPlace}, {of(api.KField, 0), 0, api.ErrPlace}, {of(api.KField, 0, num(1), num(1)), 0, api.ErrPlace}, {list(), 0, api.ErrPlace}, {of(api.KMake, 3), 0, api.ErrPlace}, {of(api.KMake, 99), 0, api.ErrPlace},
		{bad, 50, api.ErrName}, {local(-1), 0, api.ErrName}, {local(6), 0, api.ErrName}, {local(math.MaxInt64), 0, api.ErrName}, {of(api.KConst, 0), 0, api.ErrName}, {of(api.KConst, 7), 0, api.ErrName}, {of(api.KConst, 12), 0, api.ErrName}, {of(api.KConst, -1), 0, api.ErrName}, {of(api.KConst, 14), 0, api.ErrName}, {of(api.KGlobal, 1), 0, api.ErrName}, {of(api.KGlobal, 6), 0, api.ErrName}, {of(api.KGlobal, math.MinInt64), 0, api.ErrName},
		{of(api.KCall, 0, worse), 0, api.ErrName}, {of(api.KCall, 8), 0, api.ErrName}, {of(api.KCall, math.MaxInt64), 0, api.ErrName}, {of(api.KMake, 4, worse), 0, api.ErrName}, {of(api.KMake, 9, worse), 0, api.ErrName}, {of(api.KMake, 10, worse), 0, api.ErrName}, {of(api.KMake, 11, worse), 0, api.ErrName}, {at(9, T{K: api.KExt, S: "f", L: []T{worse}}), 9, api.ErrName}, {of(api.KExt, 0), 0, api.ErrName},
		{bin(api.OpAdd, bad, worse), 50, api.ErrName}, {bin(api.OpAdd, tf(1), worse), 60, api.ErrPlace}, {list(num(1), tf(1), bad), 50, api.ErrName}, {of(api.KCall, 4, bad), 50, api.ErrName}, {of(api.KMake, 3, tf(1), worse), 60, api.ErrPlace}, {index(num(1), bad), 50, api.ErrName},
		{at(5, named("x", local(3))), 5, api.ErrName}, {at(6, named("q", local(3))), 6, api.ErrName}, {field(194, local(3)), 0, api.ErrName}, {field(320, local(3)), 0, api.ErrName}, {field(-1, local(3)), 0, api.ErrName}, {field(0, local(3)), 0, api.ErrName}, {field(math.MaxInt64, local(3)), 0, api.ErrName}, {named("o", bad), 50, api.ErrName},
		{at(7, named("o", num(1))), 7, api.ErrType}, {field(192, local(4)), 0, api.ErrType}, {at(8, list(num(1), tf(1))), 8, api.ErrType}, {index(list(num(1), num(2)), tf(1)), 0, api.ErrType}, {index(num(1), num(1)), 0, api.ErrType}, {index(local(3), num(1)), 0, api.ErrType},
		{bin(api.OpOr, num(1), tf(1)), 0, api.ErrType}, {bin(api.OpAnd, tf(1), num(1)), 0, api.ErrType}, {bin(api.OpAnd, num(1), num(1)), 0, api.ErrType}, {bin(api.OpEq, num(1), tf(1)), 0, api.ErrType}, {bin(api.OpEq, local(3), local(3)), 0, api.ErrType}, {bin(api.OpNe, local(4), local(4)), 0, api.ErrType}, {bin(api.OpLt, tf(1), tf(1)), 0, api.ErrType}, {bin(api.OpGe, num(1), tf(1)), 0, api.ErrType}, {bin(api.OpAdd, tf(1), tf(1)), 0, api.ErrType}, {bin(api.OpRem, num(1), tf(1)), 0, api.ErrType}, {un(api.OpNeg, tf(1)), 0, api.ErrType}, {un(api.OpNot, num(1)), 0, api.ErrType},
		{of(api.KMake, 3, num(1)), 0, api.ErrType}, {of(api.KMake, 3, num(1), tf(1)), 0, api.ErrType}, {of(api.KMake, 3, num(1), num(1), num(1)), 0, api.ErrType}, {of(api.KCall, 4), 0, api.ErrType}, {of(api.KCall, 4, num(1), num(1)), 0, api.ErrType}, {of(api.KCall, 4, num(1), list(num(1))), 0, api.ErrType},
		{at(4, list(make17()...)), 4, api.ErrSize}, {list(list(make16()...), list(make16()...), list(make16()...), list(make16()...), list(make16()...)), 0, api.ErrSize},
	} {
		kind, settled, place, e := typer.Of(module(), locals, c.t)
		if place != c.at || e != c.e || !reflect.DeepEqual(kind, none) || !reflect.DeepEqual(settled, none) {
			t.Errorf("%v: %d %d, not %d %d", c.t, place, e, c.at, c.e)
		}
	}
	odd := of(api.KModule, 0, of(api.KVar, 0, num(1)), of(api.KRecord, 0, part("", integer), part("", integer), part("", integer)), of(api.KFn, 0, part("", integer)), of(api.KRecord, 0, of(api.KVar, 0, integer)), of(api.KDefine, 0, integer), of(api.KFn, 0, of(api.KParams, 0, of(api.KPart, 0)), integer, of(api.KBlock, 0)), of(api.KDefine, 0, num(1), num(1)), of(api.KVar, 0, integer, integer))
	weird := []T{{K: api.KInt, L: []T{integer}}, {K: api.KBool, L: []T{truth}}, {K: api.KRec, N: 1, L: []T{integer}}, {K: api.KArr, N: 2}, {K: api.KArr, N: 2, L: []T{integer, integer}}}
	for i, c := range []struct {
		t T
		e api.Errno
	}{
		{of(api.KConst, 0), api.ErrName}, {of(api.KConst, 4), api.ErrName}, {of(api.KConst, 6), api.ErrName}, {of(api.KGlobal, 7), api.ErrName}, {of(api.KCall, 1), api.ErrName}, {of(api.KMake, 2, num(1)), api.ErrName}, {of(api.KMake, 3, num(1)), api.ErrName}, {of(api.KCall, 5, num(1)), api.ErrType}, {of(api.KMake, 1, num(1), num(1), num(1)), api.OK},
		{bin(api.OpAdd, local(4), num(1)), api.ErrType}, {bin(api.OpAdd, tf(1), num(1)), api.ErrType}, {bin(api.OpAdd, num(1), local(4)), api.ErrType}, {un(api.OpNeg, local(4)), api.ErrType}, {un(api.OpNot, local(3)), api.ErrType}, {bin(api.OpOr, local(3), tf(1)), api.ErrType}, {field(64, local(2)), api.ErrType}, {index(local(2), num(0)), api.ErrType}, {index(local(1), num(0)), api.ErrType}, {index(local(0), num(0)), api.ErrType}, {local(0), api.OK},
	} {
		if _, _, _, e := typer.Of(odd, weird, c.t); e != c.e {
			t.Errorf("odd %d: %d, not %d", i, e, c.e)
		}
	}
	if _, _, _, e := typer.Of(module(), nil, local(0)); e != api.ErrName {
		t.Error("no locals")
	}
	if _, _, _, e := typer.Of(none, nil, of(api.KConst, 0)); e != api.ErrName {
		t.Error("no module")
	}
	if _, _, _, e := typer.Of(module(), []T{rec(99)}, named("o", local(0))); e != api.ErrName {
		t.Error("a record that is not there")
	}
}

func make16() []T {
	var l []T
	for i := range int64(16) {
		l = append(l, num(i))
	}
	return l
}

func make17() []T { return append(make16(), num(1)) }

func TestLiteral(t *testing.T) {
	for k := -1; k <= api.KModule+1; k++ {
		want := map[int]T{api.KNum: integer, api.KTruth: truth}[k]
		if x := typer.Literal(T{K: k, N: 5, S: "s"}); !reflect.DeepEqual(x, want) {
			t.Errorf("of the kind %d: %v", k, x)
		}
	}
}
