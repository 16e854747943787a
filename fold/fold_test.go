package fold_test

import (
	"math"
	"reflect"
	"slices"
	"testing"

	"notary/api"
	"notary/exec"
	"notary/fold"
	"notary/right"
	"notary/term"
	"notary/value"
)

type T = api.Term

const prefix = "var g: int; var h: [2]int; rec R { x: int; y: bool; } const c = 3; const d = true; fn writes(): int { g = g + 7; return 1; } fn prints(k: int): int { print k; return k; } fn none(): int { return 4; } fn yes(k: int): bool { print k; return k > 0; } fn both(k: int, l: int): int { return k * 10 + l; } fn spare(): bool { return h[0] == 0; } "

// exprs reads expressions, which may name a: int, b: bool, e: [2]int, r: R and i: int.
func exprs(t *testing.T, l ...string) (T, []T) {
	t.Helper()
	text := prefix + "fn main(a: int, b: bool, e: [2]int, r: R, i: int): int {"
	for _, x := range l {
		text += " { let z = " + x + "; }"
	}
	_, m, at, e := right.Read(text + " }")
	if e != api.OK {
		t.Fatalf("%q: %d %d", text[at:], at, e)
	}
	var out []T
	for _, s := range m.L[len(m.L)-1].L[2].L {
		out = append(out, s.L[0].L[0])
	}
	return m, out
}

// sameRuns asks whether two expressions do the same, within so many times as much fuel.
func sameRuns(t *testing.T, m, l, r T) bool {
	t.Helper()
	types := []T{{K: api.KInt}, {K: api.KBool}, {K: api.KArr, N: 2, L: []T{{K: api.KInt}}}, {K: api.KRec, N: 2}, {K: api.KInt}}
	for _, a := range []int64{-9223372036854775808, -7, 0, 1, 5} {
		s := exec.Start(m, []int64{4, a, 0, 9}, 5000)
		s.Globals[0].N = a + 1
		s.Locals = []api.Value{{N: a}, {N: a & 1}, {L: []api.Value{{N: 8}, {N: a}}}, {L: []api.Value{{N: 6}, {N: 1}}}, {N: 1}}
		v, p, e := exec.Eval(m, types, s, l)
		w, q, f := exec.Eval(m, types, s, r)
		if e != api.OK || f != api.OK {
			t.Fatalf("%v %d, %v %d", l, e, r, f)
		}
		n, k := 5000-p.Fuel, 5000-q.Fuel
		times := 2 + term.Size(l) + term.Size(r)
		p.Fuel, q.Fuel = 0, 0
		if !value.Same(v, w) || !reflect.DeepEqual(p, q) || n > (k+1)*times || k > (n+1)*times {
			return false
		}
	}
	return true
}

// cases: which rules hold of which sides.
var cases = []struct {
	l, r  string
	rules []int
}{
	{"2 + 3", "5", []int{api.Fold}}, {"2 - 3", "-1", nil}, {"5 - 3", "2", []int{api.Fold}}, {"2 * 3", "6", []int{api.Fold}}, {"7 / 2", "3", []int{api.Fold}}, {"7 % 2", "1", []int{api.Fold}}, {"1 / 0", "0", nil}, {"1 % 0", "0", nil}, {"2 + 3", "6", nil}, {"2 + 3", "true", nil}, {"a + 3", "3", nil}, {"2 + (1 + 2)", "5", nil}, {"5", "5", nil}, {"2 * 9223372036854775807", "9223372036854775807", nil},
	{"1 < 2", "true", []int{api.Fold}}, {"2 < 2", "false", []int{api.Fold}}, {"2 <= 2", "true", []int{api.Fold}}, {"2 > 1", "true", []int{api.Fold}}, {"2 >= 3", "false", []int{api.Fold}}, {"2 == 2", "true", []int{api.Fold}}, {"2 != 2", "false", []int{api.Fold}}, {"1 < 2", "1 == 1", nil}, {"1 == 2", "true", nil},
	{"true && false", "false", []int{api.Fold}}, {"true || false", "true", []int{api.Fold}}, {"true == false", "false", []int{api.Fold}}, {"true != false", "true", []int{api.Fold}}, {"true && d", "true", nil}, {"!true", "false", []int{api.Fold}}, {"!false", "true", []int{api.Fold}}, {"!false", "false", nil}, {"-0", "0", []int{api.Fold}}, {"-5", "5", nil}, {"!!true", "true", nil},
	{"c", "3", []int{api.ConstRef}}, {"d", "true", []int{api.ConstRef}}, {"c", "4", nil}, {"d", "false", nil}, {"c", "c", nil}, {"g", "0", nil}, {"3", "c", nil},
	{"new R(a, b).x", "a", []int{api.FieldMake}}, {"new R(a, b).y", "b", []int{api.FieldMake}}, {"new R(writes(), b).x", "writes()", []int{api.FieldMake}}, {"new R(writes(), b).y", "b", nil}, {"new R(a, yes(1)).y", "yes(1)", []int{api.FieldMake}}, {"new R(a, yes(1)).x", "a", nil}, {"new R(read / a, b).x", "read / a", []int{api.FieldMake}}, {"new R(a / a, b).y", "b", nil}, {"new R(a, b).x", "i", nil}, {"r.x", "a", nil}, {"new R(a, b).x", "b", nil},
	{"[a, i][0]", "a", []int{api.IndexList}}, {"[a, i][1]", "i", []int{api.IndexList}}, {"[a, i][2]", "i", nil}, {"[a, i][a]", "a", nil}, {"[none(), 7][1]", "7", nil}, {"[none(), 7][0]", "none()", []int{api.IndexList}}, {"[a, i][1 - 1]", "a", nil}, {"e[0]", "8", nil}, {"[[1, 2], e][1]", "e", []int{api.IndexList}}, {"[a, i][0]", "i", nil}, {"[7, read, 7][1]", "read", []int{api.IndexList}}, {"[read, 7, 7][1]", "7", nil}, {"[7, 7, read][1]", "7", nil},
}

func TestHolds(t *testing.T) {
	for _, c := range cases {
		m, l := exprs(t, c.l, c.r)
		for rule := -1; rule <= api.DropParam+2; rule++ {
			want := slices.Contains(c.rules, rule)
			if fold.Holds(m, rule, l[0], l[1]) != want {
				t.Errorf("%q to %q by %d: not %v", c.l, c.r, rule, want)
			}
			if want && !sameRuns(t, m, l[0], l[1]) {
				t.Errorf("%q to %q by %d: they do not do the same", c.l, c.r, rule)
			}
		}
		v, ok := fold.Value(l[0])
		if slices.Contains(c.rules, api.Fold) != (ok && term.Same(v, l[1])) {
			t.Errorf("%q is folded to %v", c.l, v)
		}
	}
}

func num(n int64) T   { return T{K: api.KNum, N: n} }
func truth(n int64) T { return T{K: api.KTruth, N: n} }
func of(k int, n int64, l ...T) T {
	return T{K: k, N: n, L: l}
}

func TestValue(t *testing.T) {
	for _, c := range []struct {
		t, want T
		ok      bool
	}{
		{of(api.KBin, api.OpSub, num(2), num(3)), num(-1), true}, {of(api.KBin, api.OpMul, num(math.MinInt64), num(-1)), num(math.MinInt64), true}, {of(api.KBin, api.OpDiv, num(math.MinInt64), num(-1)), num(math.MinInt64), true}, {of(api.KUn, api.OpNeg, num(5)), num(-5), true}, {of(api.KUn, api.OpNeg, num(math.MinInt64)), num(math.MinInt64), true},
		{of(api.KBin, api.OpDiv, num(2), num(0)), T{}, false}, {of(api.KBin, api.OpRem, num(2), num(0)), T{}, false}, {of(api.KBin, api.OpAdd, truth(1), truth(0)), T{}, false}, {of(api.KBin, api.OpAdd, num(1), truth(0)), T{}, false}, {of(api.KBin, api.OpEq, num(1), truth(1)), T{}, false}, {of(api.KBin, api.OpLt, truth(0), truth(1)), T{}, false}, {of(api.KBin, api.OpAnd, num(1), num(1)), T{}, false}, {of(api.KBin, api.OpOr, num(1), num(0)), T{}, false},
		{of(api.KBin, api.OpEq, truth(1), truth(1)), truth(1), true}, {of(api.KBin, api.OpNe, truth(1), truth(1)), truth(0), true}, {of(api.KBin, api.OpOr, truth(0), truth(0)), truth(0), true}, {of(api.KBin, api.OpAnd, truth(2), truth(1)), T{}, false}, {of(api.KBin, api.OpEq, truth(-1), truth(1)), T{}, false},
		{of(api.KUn, api.OpNot, num(0)), T{}, false}, {of(api.KUn, api.OpNeg, truth(0)), T{}, false}, {of(api.KUn, 3, num(0)), T{}, false}, {of(api.KUn, api.OpNot, truth(2)), T{}, false}, {of(api.KBin, 0, num(1), num(1)), T{}, false}, {of(api.KBin, 14, num(1), num(1)), T{}, false},
		{of(api.KBin, api.OpAdd, num(1)), T{}, false}, {of(api.KBin, api.OpAdd, num(1), num(1), num(1)), T{}, false}, {of(api.KBin, api.OpAdd), T{}, false}, {of(api.KUn, api.OpNeg), T{}, false}, {of(api.KUn, api.OpNeg, num(1), num(1)), T{}, false}, {num(1), T{}, false}, {T{}, T{}, false}, {of(api.KList, 0, num(1), num(1)), T{}, false}, {of(api.KList, api.OpAdd, num(1), num(1)), T{}, false}, {of(api.KPrint, api.OpNeg, num(1)), T{}, false},
		{T{K: api.KBin, N: api.OpAdd, S: "s", L: []T{num(1), num(1)}}, T{}, false}, {T{K: api.KUn, N: api.OpNeg, S: "s", L: []T{num(1)}}, T{}, false}, {of(api.KBin, api.OpAdd, T{K: api.KNum, S: "s"}, num(1)), T{}, false}, {of(api.KBin, api.OpAdd, num(1), of(api.KNum, 1, num(1))), T{}, false}, {T{K: api.KBin, N: api.OpAdd, From: 3, To: 5, L: []T{{K: api.KNum, N: 1, From: 3}, num(1)}}, num(2), true},
	} {
		v, ok := fold.Value(c.t)
		if ok != c.ok || !reflect.DeepEqual(v, c.want) {
			t.Errorf("%v: %v %v", c.t, v, ok)
		}
		if fold.Holds(T{}, api.Fold, c.t, c.want) != c.ok {
			t.Errorf("Fold of %v", c.t)
		}
	}
}

// TestHandMade: sides that no text is read as.
func TestHandMade(t *testing.T) {
	m := T{K: api.KModule, L: []T{of(api.KDefine, 0, num(3)), of(api.KDefine, 0, T{K: api.KNum, S: "s"}), of(api.KDefine, 0), of(api.KDefine, 0, num(1), num(1)), of(api.KVar, 0, num(3)), of(api.KDefine, 0, truth(2)), of(api.KDefine, 0, of(api.KRead, 0))}}
	made := of(api.KMake, 2, num(5), num(6))
	list := of(api.KList, 9, num(5), num(6))
	for i, c := range []struct {
		rule int
		l, r T
		want bool
	}{
		{api.ConstRef, of(api.KConst, 0), num(3), true}, {api.ConstRef, of(api.KGlobal, 0), num(3), false}, {api.FieldMake, of(api.KIndex, 128, made), num(5), false}, {api.FieldMake, of(api.KField, 128, of(api.KCall, 2, num(5), num(6))), num(5), false}, {api.FieldMake, of(api.KField, 0, of(api.KMake, 0, num(5))), num(5), true}, {api.IndexList, of(api.KBin, 0, list, num(1)), num(6), false}, {api.ConstRef, of(api.KConst, 1), T{K: api.KNum, S: "s"}, false}, {api.ConstRef, of(api.KConst, 2), T{}, false}, {api.ConstRef, of(api.KConst, 3), num(1), false}, {api.ConstRef, of(api.KConst, 4), num(3), false}, {api.ConstRef, of(api.KConst, 5), truth(2), false}, {api.ConstRef, of(api.KConst, 6), of(api.KRead, 0), false}, {api.ConstRef, of(api.KConst, 7), T{}, false}, {api.ConstRef, of(api.KConst, -1), T{}, false}, {api.ConstRef, of(api.KConst, math.MaxInt64), T{}, false}, {api.ConstRef, T{K: api.KConst, S: "s"}, num(3), false}, {api.ConstRef, of(api.KConst, 0, num(1)), num(3), false},
		{api.FieldMake, of(api.KField, 128, made), num(5), true}, {api.FieldMake, of(api.KField, 129, made), num(6), true}, {api.FieldMake, of(api.KField, 130, made), T{}, false}, {api.FieldMake, of(api.KField, 65, made), num(6), false}, {api.FieldMake, of(api.KField, 193, made), num(6), false}, {api.FieldMake, of(api.KField, -1, of(api.KMake, 0, num(5))), num(5), false}, {api.FieldMake, of(api.KField, -64, of(api.KMake, -1, num(5))), num(5), false}, {api.FieldMake, T{K: api.KField, N: 128, S: "s", L: []T{made}}, num(5), false}, {api.FieldMake, of(api.KField, 0, T{K: api.KMake, S: "s", L: []T{num(5)}}), num(5), false}, {api.FieldMake, of(api.KField, 128), T{}, false}, {api.FieldMake, of(api.KField, 128, made, made), num(5), false}, {api.FieldMake, of(api.KField, 128, list), num(5), false},
		{api.IndexList, of(api.KIndex, 0, list, num(1)), num(6), true}, {api.IndexList, of(api.KIndex, 0, list, num(-1)), T{}, false}, {api.IndexList, of(api.KIndex, 0, list, num(math.MinInt64)), T{}, false}, {api.IndexList, of(api.KIndex, 0, list, num(math.MaxInt64)), T{}, false}, {api.IndexList, of(api.KIndex, 0, list, truth(1)), num(6), false}, {api.IndexList, of(api.KIndex, 0, list, T{K: api.KNum, N: 1, S: "s"}), num(6), false}, {api.IndexList, T{K: api.KIndex, S: "s", L: []T{list, num(1)}}, num(6), false}, {api.IndexList, of(api.KIndex, 0, T{K: api.KList, S: "s", L: list.L}, num(1)), num(6), false}, {api.IndexList, of(api.KIndex, 0, list), T{}, false}, {api.IndexList, of(api.KIndex, 0, list, num(1), num(1)), num(6), false}, {api.IndexList, of(api.KIndex, 0, made, num(1)), num(6), false}, {api.IndexList, T{}, T{}, false}, {api.Fold, T{}, T{}, false}, {api.FieldMake, T{}, T{}, false}, {api.ConstRef, T{}, T{}, false},
	} {
		if fold.Holds(m, c.rule, c.l, c.r) != c.want {
			t.Errorf("%d: rule %d of %v and %v", i, c.rule, c.l, c.r)
		}
	}
}
