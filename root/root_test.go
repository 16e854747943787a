package root_test

import (
	"math"
	"math/big"
	"slices"
	"testing"

	"notary/root"
)

// fits asks whether x to the power e is at most p * 2^places.
func fits(x uint64, e, p int64, places uint) bool {
	b := new(big.Int).Exp(new(big.Int).SetUint64(x), big.NewInt(e), nil)
	return b.Cmp(new(big.Int).Lsh(big.NewInt(p), places)) <= 0
}

func TestExamples(t *testing.T) {
	if root.Square(4) != 2<<32 || root.Cube(8) != 2<<32 || root.Square(0) != 0 || root.Cube(0) != 0 || root.Square(1) != 1<<32 || root.Cube(1) != 1<<32 {
		t.Error("whole roots")
	}
	if uint32(root.Square(2)) != 0x6a09e667 || uint32(root.Cube(2)) != 0x428a2f98 {
		t.Error("places of the roots of 2")
	}
	if root.Square(65536) != 256<<32 || root.Cube(32768) != 32<<32 {
		t.Error("great roots")
	}
}

func TestRootsAreGreatest(t *testing.T) {
	var s, c uint64
	for p := 0; p <= 65536; p += 1 + p/50 {
		x, y := root.Square(p), root.Cube(p)
		if !fits(x, 2, int64(p), 64) || fits(x+1, 2, int64(p), 64) {
			t.Errorf("Square(%d): %d", p, x)
		}
		if !fits(y, 3, int64(p), 96) || fits(y+1, 3, int64(p), 96) {
			t.Errorf("Cube(%d): %d", p, y)
		}
		if x < s || y < c {
			t.Errorf("a smaller root of the greater number %d", p)
		}
		s, c = x, y
	}
}

func TestBeyondTheRange(t *testing.T) {
	for _, p := range []int{-1, -65537, math.MinInt} {
		if root.Square(p) != 0 || root.Cube(p) != 0 || len(root.Primes(p)) != 0 {
			t.Errorf("%d is not as 0", p)
		}
	}
	for _, p := range []int{65537, 1 << 40, math.MaxInt} {
		if root.Square(p) != root.Square(65536) || root.Cube(p) != root.Cube(65536) || len(root.Primes(p)) != 100 {
			t.Errorf("%d is not as the greatest", p)
		}
	}
}

func TestPrimes(t *testing.T) {
	if p := root.Primes(5); !slices.Equal(p, []int{2, 3, 5, 7, 11}) {
		t.Error(p)
	}
	if len(root.Primes(0)) != 0 || len(root.Primes(1)) != 1 || len(root.Primes(101)) != 100 {
		t.Error("so many primes")
	}
	l := root.Primes(100)
	var want []int
	for n := int64(2); len(want) < 100; n++ {
		if big.NewInt(n).ProbablyPrime(10) {
			want = append(want, int(n))
		}
	}
	if !slices.Equal(l, want) || l[99] != 541 {
		t.Error(l)
	}
}
