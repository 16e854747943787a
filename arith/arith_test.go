package arith_test

import (
	"math"
	"math/big"
	"testing"

	"notary/api"
	"notary/arith"
)

var numbers = []int64{0, 1, -1, 2, -2, 3, 7, -7, 10, 1 << 31, -1 << 31, 1 << 32, 3037000500, math.MaxInt64, math.MaxInt64 - 1, math.MinInt64, math.MinInt64 + 1}

func two(op, a, b int64) int64 {
	v, _ := arith.Two(op, a, b)
	return v
}

func truth(b bool) int64 {
	if b {
		return 1
	}
	return 0
}

// wrapped is a whole number modulo 2^64.
func wrapped(x *big.Int) int64 {
	m := new(big.Int).Lsh(big.NewInt(1), 64)
	return int64(new(big.Int).Mod(x, m).Uint64())
}

func TestTwo(t *testing.T) {
	for _, a := range numbers {
		for _, b := range numbers {
			x, y := big.NewInt(a), big.NewInt(b)
			want := map[int64]int64{
				api.OpOr: truth(a != 0 || b != 0), api.OpAnd: truth(a != 0 && b != 0), api.OpEq: truth(x.Cmp(y) == 0), api.OpNe: truth(x.Cmp(y) != 0), api.OpLt: truth(x.Cmp(y) < 0), api.OpLe: truth(x.Cmp(y) <= 0), api.OpGt: truth(x.Cmp(y) > 0), api.OpGe: truth(x.Cmp(y) >= 0),
				api.OpAdd: wrapped(new(big.Int).Add(x, y)), api.OpSub: wrapped(new(big.Int).Sub(x, y)), api.OpMul: wrapped(new(big.Int).Mul(x, y)), api.OpDiv: 0, api.OpRem: 0,
			}
			trap := api.TrapDiv
			if b != 0 {
				want[api.OpDiv], want[api.OpRem] = wrapped(new(big.Int).Quo(x, y)), wrapped(new(big.Int).Rem(x, y))
				trap = 0
			}
			for op := int64(api.OpOr); op <= api.OpRem; op++ {
				v, tr := arith.Two(op, a, b)
				if v != want[op] || op < api.OpDiv && tr != 0 || op >= api.OpDiv && tr != trap {
					t.Errorf("operator %d of %d and %d: %d %d", op, a, b, v, tr)
				}
			}
		}
	}
}

func TestExamples(t *testing.T) {
	if two(api.OpDiv, -7, 2) != -3 || two(api.OpRem, -7, 2) != -1 || two(api.OpDiv, 7, -2) != -3 || two(api.OpRem, 7, -2) != 1 || two(api.OpDiv, math.MinInt64, -1) != math.MinInt64 || two(api.OpRem, math.MinInt64, -1) != 0 {
		t.Error("places are cut off")
	}
	if v, trap := arith.Two(api.OpDiv, 1, 0); v != 0 || trap != api.TrapDiv {
		t.Error("division by 0")
	}
}

func TestLaws(t *testing.T) {
	for _, a := range numbers {
		for _, b := range numbers {
			for _, op := range []int64{api.OpAdd, api.OpMul} {
				if two(op, a, b) != two(op, b, a) {
					t.Error("the order matters", op, a, b)
				}
				for _, c := range numbers {
					if two(op, two(op, a, b), c) != two(op, a, two(op, b, c)) || two(api.OpMul, a, two(api.OpAdd, b, c)) != two(api.OpAdd, two(api.OpMul, a, b), two(api.OpMul, a, c)) {
						t.Error("the grouping matters", op, a, b, c)
					}
				}
			}
			if two(api.OpLt, a, b)+two(api.OpEq, a, b)+two(api.OpGt, a, b) != 1 {
				t.Error("less, equal, greater", a, b)
			}
			q, r := two(api.OpDiv, a, b), two(api.OpRem, a, b)
			if b != 0 && (two(api.OpAdd, two(api.OpMul, q, b), r) != a || r != 0 && (r < 0) != (a < 0)) {
				t.Error("what is divided", a, b, q, r)
			}
		}
	}
}

func TestOne(t *testing.T) {
	for _, a := range numbers {
		if v, trap := arith.One(api.OpNeg, a); v != -a || trap != 0 {
			t.Error("minus", a, v)
		}
		if v, trap := arith.One(api.OpNot, a); v != truth(a == 0) || trap != 0 {
			t.Error("not", a, v)
		}
	}
}

func TestOtherOperators(t *testing.T) {
	for _, op := range []int64{0, -1, 14, 15, math.MaxInt64, math.MinInt64, 1 << 32} {
		if v, trap := arith.Two(op, 3, 0); v != 0 || trap != 0 {
			t.Error(op, v, trap)
		}
	}
	for _, op := range []int64{0, -1, 3, 9, math.MaxInt64, math.MinInt64} {
		if v, trap := arith.One(op, 0); v != 0 || trap != 0 {
			t.Error(op, v, trap)
		}
	}
}
