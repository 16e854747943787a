package value_test

import (
	"math"
	"reflect"
	"testing"

	"notary/api"
	"notary/value"
)

type (
	T = api.Term
	V = api.Value
)

var (
	integer = T{K: api.KInt}
	truth   = T{K: api.KBool}
	module  = T{K: api.KModule, L: []T{{K: api.KVar, L: []T{integer}}, {K: api.KRecord, L: []T{{K: api.KPart, L: []T{integer}}, {K: api.KPart, L: []T{truth}}}}, {K: api.KRecord, L: []T{{K: api.KPart, L: []T{rec(2)}}}}}}
)

func rec(n int64) T      { return T{K: api.KRec, N: n} }
func arr(n int64, t T) T { return T{K: api.KArr, N: n, L: []T{t}} }
func list(l ...V) V      { return V{L: l} }
func n(x int64) V        { return V{N: x} }

func TestZero(t *testing.T) {
	for _, c := range []struct {
		t T
		v V
	}{
		{integer, V{}}, {truth, V{}}, {arr(3, integer), list(V{}, V{}, V{})}, {rec(1), list(V{}, V{})}, {arr(2, rec(1)), list(list(V{}, V{}), list(V{}, V{}))}, {arr(1, arr(2, truth)), list(list(V{}, V{}))},
	} {
		v := value.Zero(module, c.t)
		if !value.Same(v, c.v) || !value.Fits(module, c.t, v) {
			t.Errorf("%v: %v", c.t, v)
		}
	}
	for _, x := range []T{{}, rec(0), rec(2), rec(3), rec(-1), rec(math.MaxInt64), arr(0, integer), arr(17, integer), arr(math.MaxInt64, integer), arr(16, arr(5, integer)), {K: api.KArr, N: 3}, {K: api.KInt, L: []T{integer}}, {K: api.KNum}} {
		if v := value.Zero(module, x); v.N != 0 || len(v.L) != 0 || value.Fits(module, x, v) {
			t.Errorf("%v: %v", x, v)
		}
	}
}

func TestFits(t *testing.T) {
	for _, c := range []struct {
		t    T
		v    V
		fits bool
	}{
		{integer, n(math.MinInt64), true}, {integer, n(7), true}, {integer, list(V{}), false}, {truth, n(0), true}, {truth, n(1), true}, {truth, n(2), false}, {truth, n(-1), false}, {truth, list(V{}), false},
		{arr(2, truth), list(n(1), n(0)), true}, {arr(2, truth), list(n(1), n(2)), false}, {arr(2, truth), list(n(1)), false}, {arr(2, truth), list(n(1), n(1), n(1)), false}, {arr(2, truth), n(0), false}, {arr(2, truth), V{N: 1, L: []V{n(1), n(0)}}, false},
		{rec(1), list(n(5), n(1)), true}, {rec(1), list(n(1), n(5)), false}, {rec(1), V{N: 2, L: []V{n(5), n(1)}}, false}, {rec(1), list(n(5)), false}, {rec(1), list(n(5), n(1), n(0)), false}, {rec(1), list(list(n(5)), n(1)), false}, {arr(1, rec(1)), list(list(n(5), n(1))), true}, {arr(1, rec(1)), list(n(5)), false}, {rec(2), list(V{}), false}, {rec(0), V{}, false}, {T{}, V{}, false},
	} {
		if value.Fits(module, c.t, c.v) != c.fits {
			t.Errorf("Fits(%v, %v)", c.t, c.v)
		}
	}
}

var sample = list(n(1), list(n(2), list(n(3), n(4))), n(5))

func TestGet(t *testing.T) {
	for _, c := range []struct {
		way  []int
		want V
	}{{nil, sample}, {[]int{}, sample}, {[]int{0}, n(1)}, {[]int{1, 0}, n(2)}, {[]int{1, 1, 1}, n(4)}, {[]int{1, 1}, list(n(3), n(4))}, {[]int{2}, n(5)}} {
		if v, ok := value.Get(sample, c.way); !ok || !reflect.DeepEqual(v, c.want) {
			t.Errorf("%v: %v", c.way, v)
		}
	}
	for _, way := range [][]int{{3}, {-1}, {0, 0}, {1, 2}, {1, 1, 1, 0}, {math.MaxInt}, {math.MinInt}, {1, -1}} {
		if v, ok := value.Get(sample, way); ok || !reflect.DeepEqual(v, V{}) {
			t.Errorf("Get %v: %v", way, v)
		}
		if v, ok := value.Set(sample, way, n(9)); ok || !reflect.DeepEqual(v, V{}) {
			t.Errorf("Set %v: %v", way, v)
		}
	}
}

func TestSet(t *testing.T) {
	ways := [][]int{nil, {0}, {1}, {1, 0}, {1, 1}, {1, 1, 0}, {1, 1, 1}, {2}}
	kept := list(n(1), list(n(2), list(n(3), n(4))), n(5))
	x := list(n(7), n(8))
	for _, way := range ways {
		v, ok := value.Set(sample, way, x)
		if got, _ := value.Get(v, way); !ok || !reflect.DeepEqual(got, x) || !reflect.DeepEqual(sample, kept) {
			t.Errorf("%v: %v", way, v)
		}
		old, _ := value.Get(sample, way)
		if back, _ := value.Set(v, way, old); !reflect.DeepEqual(back, sample) {
			t.Errorf("%v: something else was set: %v", way, v)
		}
	}
	k := arr(2, rec(1))
	v, _ := value.Set(value.Zero(module, k), []int{1, 1}, n(1))
	if !value.Fits(module, k, v) || !value.Same(v, list(list(n(0), n(0)), list(n(0), n(1)))) {
		t.Error(v)
	}
}

func TestSame(t *testing.T) {
	for _, c := range []struct {
		a, b V
		same bool
	}{
		{V{}, V{}, true}, {V{}, V{L: []V{}}, true}, {n(1), n(1), true}, {n(1), n(2), false}, {list(n(1), n(2)), list(n(1), n(2)), true}, {list(n(1), n(2)), list(n(2), n(1)), false}, {list(n(1)), list(n(1), n(1)), false}, {list(n(1), n(1)), list(n(1)), false}, {V{N: 1, L: []V{{}}}, V{L: []V{{}}}, false}, {list(list(n(1))), list(list(n(2))), false}, {list(V{}), V{}, false}, {sample, list(n(1), list(n(2), list(n(3), n(4))), n(5)), true},
	} {
		if value.Same(c.a, c.b) != c.same || value.Same(c.b, c.a) != c.same {
			t.Errorf("Same(%v, %v)", c.a, c.b)
		}
	}
}
