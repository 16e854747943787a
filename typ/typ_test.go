package typ_test

import (
	"math"
	"reflect"
	"testing"

	"notary/api"
	"notary/term"
	"notary/typ"
)

type T = api.Term

var (
	integer = T{K: api.KInt}
	truth   = T{K: api.KBool}
)

func arr(n int64, t T) T { return T{K: api.KArr, N: n, L: []T{t}} }
func rec(n int64) T      { return T{K: api.KRec, N: n} }
func part(t T) T         { return T{K: api.KPart, L: []T{t}} }
func record(l ...T) T {
	r := T{K: api.KRecord}
	for _, x := range l {
		r.L = append(r.L, part(x))
	}
	return r
}

// module has at 0 a record of four cells, at 1 a global, at 2 one that has 0, at 3 one that has itself, 4 and 5 each other, at 6 an empty one, at 7 one with what is no type, at 8 one of 65 cells, at 9 one of 64, at 10 one whose part is no KPart, at 11 one whose KPart has two parts, at 12 what is no record but has a KPart, at 13 a record of a KPart and a KVar.
var module = T{K: api.KModule, L: []T{
	record(integer, arr(3, truth)), {K: api.KVar, L: []T{integer}}, record(rec(0), arr(2, rec(0)), truth), record(integer, rec(3)), record(rec(5)), record(arr(1, rec(4))), record(), record(T{K: api.KNum}),
	record(arr(16, arr(4, integer)), integer), record(arr(16, arr(3, integer)), arr(16, truth)), {K: api.KRecord, L: []T{integer}}, {K: api.KRecord, L: []T{{K: api.KPart, L: []T{integer, integer}}}},
	{K: api.KFn, L: []T{part(integer)}}, {K: api.KRecord, L: []T{part(truth), {K: api.KVar, L: []T{integer}}}},
}}

func TestCells(t *testing.T) {
	for _, c := range []struct {
		t     T
		cells int
	}{
		{integer, 1}, {truth, 1}, {T{K: api.KInt, N: 7, S: "x", From: 3, To: 9}, 1}, {arr(1, integer), 1}, {arr(16, truth), 16}, {arr(2, arr(3, integer)), 6}, {rec(0), 4}, {arr(16, rec(0)), 64}, {arr(16, arr(2, rec(0))), 0}, {arr(2, arr(16, rec(0))), 0}, {rec(2), 13}, {arr(4, rec(2)), 52}, {arr(5, rec(2)), 0}, {arr(4, arr(16, integer)), 64}, {arr(5, arr(13, integer)), 0},
		{rec(1), 0}, {rec(3), 0}, {rec(4), 0}, {rec(5), 0}, {rec(6), 0}, {rec(7), 0}, {rec(8), 0}, {rec(9), 64}, {rec(10), 0}, {rec(11), 0}, {rec(12), 0}, {rec(13), 0}, {rec(14), 0}, {rec(-1), 0}, {rec(math.MaxInt64), 0}, {rec(math.MinInt64), 0}, {rec(1 << 32), 0},
		{arr(0, integer), 0}, {arr(17, integer), 0}, {arr(-1, integer), 0}, {arr(math.MaxInt64, integer), 0}, {arr(1<<62, integer), 0}, {arr(2, rec(3)), 0},
		{T{}, 0}, {T{K: api.KArr, N: 2}, 0}, {T{K: api.KArr, N: 2, L: []T{integer, integer}}, 0}, {T{K: api.KInt, L: []T{integer}}, 0}, {T{K: api.KBool, L: []T{integer}}, 0}, {T{K: api.KRec, L: []T{integer}}, 0}, {T{K: api.KNum}, 0}, {T{K: -1}, 0}, {part(integer), 0}, {arr(2, T{K: api.KNum}), 0},
	} {
		if n := typ.Cells(module, c.t); n != c.cells {
			t.Errorf("%v: %d cells, not %d", c.t, n, c.cells)
		}
	}
	if typ.Cells(T{K: api.KModule}, integer) != 1 || typ.Cells(T{K: api.KModule}, rec(0)) != 0 {
		t.Error("in an empty module")
	}
}

// TestManyRecords: chains and trees of records end, however many ways there are through them.
func TestManyRecords(t *testing.T) {
	chain, tree, round := T{K: api.KModule}, T{K: api.KModule}, T{K: api.KModule}
	for i := int64(1); i < 64; i++ {
		chain.L = append(chain.L, record(rec(i)))
		tree.L = append(tree.L, record(rec(i), rec(i)))
		round.L = append(round.L, record(rec(i%63), rec(i%63)))
	}
	chain.L = append(chain.L, record(integer, truth))
	tree.L = append(tree.L, record(integer))
	if typ.Cells(chain, rec(0)) != 2 || typ.Cells(tree, rec(0)) != 0 || typ.Cells(tree, rec(57)) != 64 || typ.Cells(tree, rec(56)) != 0 || typ.Cells(round, rec(0)) != 0 {
		t.Error(typ.Cells(chain, rec(0)), typ.Cells(tree, rec(0)), typ.Cells(tree, rec(57)))
	}
}

// TestSums: an array has its length times the cells of its part, a record those of its fields.
func TestSums(t *testing.T) {
	for _, x := range []T{integer, truth, rec(0), rec(2), arr(3, truth)} {
		for n := int64(1); n <= 16; n++ {
			if want := int(n) * typ.Cells(module, x); want <= 64 && typ.Cells(module, arr(n, x)) != want {
				t.Errorf("[%d]%v", n, x)
			}
		}
		for _, y := range []T{integer, rec(0), arr(9, truth)} {
			m := T{K: api.KModule, L: append(append([]T{}, module.L...), record(x, y))}
			if typ.Cells(m, rec(14)) != typ.Cells(m, x)+typ.Cells(m, y) {
				t.Errorf("a record of %v and %v", x, y)
			}
		}
	}
}

func TestPlain(t *testing.T) {
	for _, x := range []T{integer, truth, arr(2, arr(3, truth)), arr(16, integer)} {
		if !typ.Plain(module, x) {
			t.Errorf("%v is plain", x)
		}
	}
	for _, x := range []T{rec(0), arr(2, rec(0)), rec(3), arr(17, integer), {}, {K: api.KNum}, arr(5, arr(13, integer)), {K: api.KInt, L: []T{integer}}, arr(2, arr(2, rec(0)))} {
		if typ.Plain(module, x) {
			t.Errorf("%v is not plain", x)
		}
	}
}

func TestField(t *testing.T) {
	m := T{K: api.KModule, L: append(append([]T{}, module.L...), record(T{K: api.KBool, S: "s", From: 2, To: 6}))}
	for n, want := range map[int64]T{0: integer, 1: arr(3, truth), 128: rec(0), 130: truth, 64*3 + 1: rec(3), 64 * 7: {K: api.KNum}, 64 * 13: truth, 64 * 14: {K: api.KBool, S: "s", From: 2, To: 6}} {
		if x, ok := typ.Field(m, n); !ok || !reflect.DeepEqual(x, want) {
			t.Errorf("field %d: %v", n, x)
		}
	}
	for _, n := range []int64{-1, 2, 63, 64, 65, 131, 64 * 6, 64 * 10, 64 * 11, 64 * 12, 64*13 + 1, 64 * 15, math.MaxInt64, math.MinInt64, -64} {
		if x, ok := typ.Field(m, n); ok || !term.Same(x, T{}) {
			t.Errorf("there is a field %d", n)
		}
	}
	wide := T{K: api.KModule, L: []T{{K: api.KRecord}, record(truth)}}
	for range 70 {
		wide.L[0].L = append(wide.L[0].L, part(integer))
	}
	if x, ok := typ.Field(wide, 63); !ok || x.K != api.KInt {
		t.Error("the last field that has a number")
	}
	if x, ok := typ.Field(wide, 64); !ok || x.K != api.KBool {
		t.Error("a number is the next record's")
	}
}
