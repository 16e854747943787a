package shift_test

import (
	"math"
	"reflect"
	"testing"

	"notary/api"
	"notary/scope"
	"notary/shift"
	"notary/term"
	"notary/unit"
)

type T = api.Term

func local(n int64) T       { return T{K: api.KLocal, N: n} }
func num(n int64) T         { return T{K: api.KNum, N: n} }
func of(k int, l ...T) T    { return T{K: k, L: l} }
func block(l ...T) T        { return of(api.KBlock, l...) }
func let(e T) T             { return of(api.KLet, e) }
func set(a, b T) T          { return of(api.KSet, a, b) }
func index(a, b T) T        { return of(api.KIndex, a, b) }
func printed(n int64) T     { return of(api.KPrint, local(n)) }
func params(n int) T        { return T{K: api.KParams, L: make([]T, n)} }
func fn(n int, b T) T       { return of(api.KFn, params(n), of(api.KInt), b) }
func loop(a, b T, l ...T) T { return of(api.KFor, a, b, block(l...)) }
func field(a T) T           { return T{K: api.KField, N: 3, L: []T{a}} }

// example is the chapter's: its first and its last local mean the outer local 0.
var example = block(let(local(0)), printed(0), printed(1))

func TestIn(t *testing.T) {
	b := block(let(num(1)), printed(0), of(api.KNew, of(api.KInt)), block(let(num(1))), printed(0))
	for i, n := range []int{0, 1, 1, 2, 2, 0} {
		if shift.In(b, i) != n {
			t.Errorf("around the part %d of a block: %d", i, shift.In(b, i))
		}
	}
	for _, c := range []struct {
		t    T
		i, n int
	}{
		{loop(num(1), num(2)), 0, 0}, {loop(num(1), num(2)), 1, 0}, {loop(num(1), num(2)), 2, 1}, {loop(num(1), num(2)), 3, 0}, {fn(3, block()), 2, 3}, {fn(3, block()), 1, 0}, {fn(3, block()), 0, 0}, {fn(0, block()), 2, 0},
		{of(api.KIf, num(1), block(), block()), 2, 0}, {of(api.KIf, of(api.KList, num(1), num(2)), block(), block()), 2, 0}, {of(api.KList, params(3), num(1), num(2)), 2, 0}, {of(api.KWhile, num(1), block()), 1, 0}, {let(num(1)), 0, 0}, {b, -1, 0}, {b, math.MaxInt, 0}, {b, math.MinInt, 0}, {of(api.KFn, params(2)), 2, 0}, {of(api.KFor), 2, 0}, {T{}, 0, 0},
	} {
		if n := shift.In(c.t, c.i); n != c.n {
			t.Errorf("In(%v, %d): %d", c.t, c.i, n)
		}
	}
}

func TestShift(t *testing.T) {
	for _, c := range []struct {
		t        T
		by, from int
		want     T
		ok       bool
	}{
		{local(3), 2, 0, local(5), true}, {local(3), 2, 3, local(5), true}, {local(3), 2, 4, local(3), true}, {local(3), -1, 0, local(2), true}, {local(3), -3, 0, local(0), true}, {local(3), -3, 1, T{}, false}, {local(3), -4, 0, T{}, false}, {local(3), -2, 2, T{}, false}, {local(3), -1, 3, T{}, false}, {local(3), -1, 4, local(3), true}, {local(3), -100, 4, local(3), true}, {local(2), -2, 0, local(0), true}, {local(1), -2, 0, T{}, false},
		{example, 1, 0, block(let(local(1)), printed(0), printed(2)), true}, {example, -1, 0, T{}, false}, {example, 5, 1, example, true}, {example, 0, 0, example, true},
		{loop(local(0), local(1), printed(0), printed(1), printed(2)), 10, 0, loop(local(10), local(11), printed(0), printed(11), printed(12)), true},
		{fn(2, block(printed(1), printed(2))), 1, 0, fn(2, block(printed(1), printed(3))), true},
		{block(block(let(num(1)), printed(1)), printed(0)), 1, 0, block(block(let(num(1)), printed(2)), printed(1)), true},
		{local(-1), 5, 0, local(-1), true}, {block(let(num(1)), let(num(1)), printed(math.MinInt64), printed(-1)), 5, 0, block(let(num(1)), let(num(1)), printed(math.MinInt64), printed(-1)), true}, {of(api.KIf, of(api.KList, local(0), local(1)), block(printed(1)), block(printed(0))), 3, 0, of(api.KIf, of(api.KList, local(3), local(4)), block(printed(4)), block(printed(3))), true}, {local(math.MinInt64), -5, 0, local(math.MinInt64), true}, {local(math.MaxInt64), 1, 0, local(math.MinInt64), true}, {local(math.MaxInt64), -1, 0, local(math.MaxInt64 - 1), true},
		{T{K: api.KLocal, N: 1, S: "s", From: 4, To: 5, L: []T{local(1)}}, 1, 0, T{K: api.KLocal, N: 2, S: "s", From: 4, To: 5, L: []T{local(1)}}, true},
		{local(1), api.MaxNodes, 0, local(1 + api.MaxNodes), true}, {local(1), api.MaxNodes + 1, 0, T{}, false}, {num(1), api.MaxNodes + 1, 0, T{}, false}, {num(1), -api.MaxNodes, api.MaxNodes, num(1), true}, {num(1), -api.MaxNodes - 1, 0, T{}, false}, {num(1), 1, -1, T{}, false}, {num(1), 1, api.MaxNodes + 1, T{}, false}, {num(1), 1, math.MinInt, T{}, false}, {num(1), math.MinInt, 0, T{}, false}, {num(1), math.MaxInt, math.MaxInt, T{}, false},
	} {
		x, ok := shift.Shift(c.t, c.by, c.from)
		if ok != c.ok || !term.Same(x, c.want) || x.From != c.want.From {
			t.Errorf("Shift(%v, %d, %d): %v %v", c.t, c.by, c.from, x, ok)
		}
	}
}

func TestSubst(t *testing.T) {
	e := of(api.KList, local(0), local(4))
	for _, c := range []struct {
		t, e T
		at   int
		want T
	}{
		{local(2), e, 2, e}, {local(2), e, 1, local(2)}, {local(2), e, 3, local(2)}, {local(-1), e, -1, local(-1)}, {local(0), e, math.MinInt, local(0)}, {local(0), e, math.MaxInt, local(0)},
		{example, num(7), 0, block(let(num(7)), printed(0), of(api.KPrint, num(7)))},
		{example, e, 0, block(let(e), printed(0), of(api.KPrint, of(api.KList, local(1), local(5))))},
		{loop(local(0), local(1), printed(1), printed(0)), e, 0, loop(e, local(1), of(api.KPrint, of(api.KList, local(1), local(5))), printed(0))},
		{fn(2, block(printed(3), printed(1))), local(9), 1, fn(2, block(of(api.KPrint, local(11)), printed(1)))},
		{T{K: api.KLocal, N: 1, L: []T{local(0)}}, num(1), 0, T{K: api.KLocal, N: 1, L: []T{local(0)}}},
		{block(let(num(1)), printed(1)), loop(local(0), local(1), printed(0), printed(1)), 0, block(let(num(1)), of(api.KPrint, loop(local(1), local(2), printed(0), printed(2))))},
		{block(let(num(1)), printed(1)), local(-3), 0, block(let(num(1)), of(api.KPrint, local(-3)))},
	} {
		if x := shift.Subst(c.t, c.e, c.at); !term.Same(x, c.want) {
			t.Errorf("Subst(%v, %v, %d): %v", c.t, c.e, c.at, x)
		}
	}
}

func TestMentions(t *testing.T) {
	for _, c := range []struct {
		t    T
		at   int
		want bool
	}{
		{example, 0, true}, {example, 1, false}, {local(5), 5, true}, {local(5), 4, false}, {local(-1), -1, false}, {block(let(num(1)), printed(math.MinInt64)), math.MaxInt, false}, {block(let(num(1)), let(num(1)), printed(math.MinInt64)), math.MaxInt - 1, false}, {num(1), 0, false}, {block(let(num(1)), printed(0)), 0, false}, {block(let(num(1)), printed(3)), 2, true}, {loop(num(1), num(2), printed(0)), 0, false}, {loop(num(1), num(2), printed(1)), 0, true}, {loop(local(0), num(2)), 0, true}, {fn(2, block(printed(1))), 1, false}, {fn(2, block(printed(1))), 0, false}, {fn(2, block(printed(2))), 0, true},
		{T{K: api.KLocal, N: 1, L: []T{local(0)}}, 0, false}, {set(local(0), num(1)), 0, true}, {local(0), math.MinInt, false}, {local(math.MaxInt64), math.MaxInt, true},
	} {
		if shift.Mentions(c.t, c.at) != c.want {
			t.Errorf("Mentions(%v, %d)", c.t, c.at)
		}
	}
}

func TestAssigns(t *testing.T) {
	for _, c := range []struct {
		t    T
		at   int
		want bool
	}{
		{set(local(0), num(1)), 0, true}, {set(local(0), local(1)), 1, false}, {set(index(field(local(2)), local(1)), num(1)), 2, true}, {set(index(local(2), local(1)), num(1)), 1, false}, {block(let(num(1)), set(local(0), num(1))), 0, false}, {block(let(num(1)), set(local(1), num(1))), 0, true}, {loop(num(1), num(1), set(local(0), num(1))), 0, false}, {loop(num(1), num(1), set(field(local(1)), num(1))), 0, true}, {example, 0, false}, {local(0), 0, false}, {set(local(-1), num(1)), -1, false}, {of(api.KSet), 0, false}, {set(of(api.KGlobal), num(1)), 0, false},
		{T{K: api.KLocal, N: 5, L: []T{set(local(0), num(1))}}, 0, false}, {set(num(1), set(local(3), num(1))), 3, true}, {fn(1, block(set(local(1), num(2)))), 0, true}, {set(of(api.KUn, local(0)), num(1)), 0, false},
	} {
		if shift.Assigns(c.t, c.at) != c.want {
			t.Errorf("Assigns(%v, %d)", c.t, c.at)
		}
	}
}

func TestRoot(t *testing.T) {
	for _, c := range []struct{ t, want T }{
		{local(1), local(1)}, {index(local(1), local(2)), local(1)}, {field(index(field(num(4)), num(1))), num(4)}, {of(api.KIndex), of(api.KIndex)}, {field(of(api.KField)), of(api.KField)}, {T{}, T{}}, {set(local(1), num(1)), set(local(1), num(1))},
		{index(T{K: api.KName, S: "a", From: 3, To: 4}, num(1)), T{K: api.KName, S: "a", From: 3, To: 4}},
	} {
		if !reflect.DeepEqual(shift.Root(c.t), c.want) {
			t.Errorf("Root(%v)", c.t)
		}
	}
}

// TestWhatFollows: in blocks of a real module.
func TestWhatFollows(t *testing.T) {
	text := "fn f(a: int, b: bool): int { let c = a; if b { let d = c; a = d; } else { let e: int; e = a; } for i = a to c { let g = i; print g; c = i; } while b { print a; } return c; }"
	m, _, _ := unit.Parse(text)
	m, _, e := scope.Resolve(m)
	if e != api.OK {
		t.Fatal(e)
	}
	b := m.L[0].L[2]
	if !shift.Mentions(b, 0) || !shift.Mentions(b, 1) || !shift.Assigns(b, 1) || shift.Assigns(b, 0) {
		t.Error("the parameters")
	}
	for _, p := range term.Paths(b) {
		x, _ := term.At(b, p)
		for from := range 4 {
			for by := range 4 {
				up, ok := shift.Shift(x, by, from)
				down, ok2 := shift.Shift(up, -by, from)
				if !ok || !ok2 || !reflect.DeepEqual(down, x) {
					t.Errorf("%v shifted by %d from %d does not come back", x, by, from)
				}
			}
			_, ok := shift.Shift(x, -1, from)
			if ok == shift.Mentions(x, from) {
				t.Errorf("%v: the outer local %d", x, from)
			}
			if !shift.Mentions(x, from) && (!term.Same(shift.Subst(x, num(9), from), x) || shift.Assigns(x, from)) {
				t.Errorf("%v: nothing means %d", x, from)
			}
			if shift.Mentions(shift.Subst(x, num(9), from), from) {
				t.Errorf("%v: %d is meant still", x, from)
			}
		}
	}
}
