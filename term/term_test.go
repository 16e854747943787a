package term_test

import (
	"math"
	"reflect"
	"slices"
	"testing"

	"notary/api"
	"notary/term"
)

// sample has two parts, the second one with one part.
func sample() api.Term {
	return api.Term{K: 1, N: 2, S: "top", From: 3, To: 9, L: []api.Term{
		{K: api.KNum, N: 5, From: 4, To: 5},
		{K: api.KUn, N: 1, S: "u", From: 6, To: 8, L: []api.Term{{K: api.KNum, N: 7, From: 7, To: 8}}},
	}}
}

// chain is a term of that depth, with one part in another.
func chain(depth int) api.Term {
	t := api.Term{K: 1}
	for range depth - 1 {
		t = api.Term{K: 2, L: []api.Term{t}}
	}
	return t
}

func TestSizes(t *testing.T) {
	for _, c := range []struct {
		t           api.Term
		size, depth int
	}{
		{api.Term{}, 1, 1}, {sample(), 4, 3}, {chain(1000), 1000, 1000},
		{api.Term{L: []api.Term{chain(3), {}, chain(2)}}, 7, 4}, {api.Term{L: []api.Term{}}, 1, 1}, {api.Term{L: []api.Term{{}, {}}}, 3, 2},
	} {
		if n, d := term.Size(c.t), term.Depth(c.t); n != c.size || d != c.depth || len(term.Paths(c.t)) != n {
			t.Errorf("size %d, depth %d", n, d)
		}
	}
	if deep := chain(1 << 15); term.Size(deep) != 1<<15 || term.Depth(deep) != 1<<15 || !term.Same(deep, term.Bare(deep)) {
		t.Error("a deep term")
	}
}

func TestPaths(t *testing.T) {
	p := term.Paths(sample())
	if !reflect.DeepEqual([][]int{p[0][:0:0], p[1], p[2], p[3]}, [][]int{p[0][:0:0], {0}, {1}, {1, 0}}) || len(p) != 4 || len(p[0]) != 0 {
		t.Error(p)
	}
	wide := api.Term{L: []api.Term{{L: []api.Term{{}, {L: []api.Term{{}}}}}, {L: []api.Term{{}}}}}
	want := [][]int{{}, {0}, {0, 0}, {0, 1}, {0, 1, 0}, {1}, {1, 0}}
	got := term.Paths(wide)
	if !slices.EqualFunc(got, want, slices.Equal) {
		t.Error(got)
	}
	got[4] = append(got[4][:1], 9, 9, 9)
	if !slices.Equal(got[5], []int{1}) || !slices.Equal(got[3], []int{0, 1}) {
		t.Error("two paths share memory")
	}
}

func TestAt(t *testing.T) {
	s := sample()
	for _, c := range []struct {
		path []int
		n    int64
	}{{nil, 2}, {[]int{}, 2}, {[]int{0}, 5}, {[]int{1}, 1}, {[]int{1, 0}, 7}} {
		if x, ok := term.At(s, c.path); !ok || x.N != c.n {
			t.Errorf("At %v: %v", c.path, x)
		}
	}
	if x, _ := term.At(s, []int{1}); !reflect.DeepEqual(x, s.L[1]) {
		t.Error("not the part itself")
	}
	for _, p := range [][]int{{2}, {-1}, {0, 0}, {1, 1}, {1, 0, 0}, {math.MaxInt}, {math.MinInt}, {1, -1}} {
		if x, ok := term.At(s, p); ok || !reflect.DeepEqual(x, api.Term{}) {
			t.Errorf("At %v leads somewhere", p)
		}
		if x, ok := term.Put(s, p, chain(2)); ok || !reflect.DeepEqual(x, api.Term{}) {
			t.Errorf("Put %v leads somewhere", p)
		}
	}
}

func TestPut(t *testing.T) {
	x := api.Term{K: 9, S: "x", L: []api.Term{{K: 8}, {K: 7}}}
	for _, p := range term.Paths(sample()) {
		s := sample()
		out, ok := term.Put(s, p, x)
		if !ok || !reflect.DeepEqual(s, sample()) {
			t.Fatalf("Put %v: the first term is changed", p)
		}
		old, _ := term.At(s, p)
		if got, _ := term.At(out, p); !reflect.DeepEqual(got, x) || term.Size(out) != term.Size(s)-term.Size(old)+3 {
			t.Errorf("Put %v: %v", p, out)
		}
		if back, _ := term.Put(out, p, old); !reflect.DeepEqual(back, s) {
			t.Errorf("Put %v changed something else", p)
		}
	}
}

func TestSame(t *testing.T) {
	placed := sample()
	placed.From, placed.L[1].To, placed.L[1].L[0].From = 77, 78, 79
	if !term.Same(sample(), placed) || !term.Same(api.Term{}, api.Term{L: []api.Term{}}) {
		t.Error("places matter")
	}
	for _, change := range []func(*api.Term){
		func(x *api.Term) { x.K++ }, func(x *api.Term) { x.N++ }, func(x *api.Term) { x.S += "x" },
		func(x *api.Term) { x.L = append(x.L, api.Term{}) },
	} {
		for _, p := range term.Paths(sample()) {
			part, _ := term.At(sample(), p)
			change(&part)
			other, _ := term.Put(sample(), p, part)
			if term.Same(sample(), other) || term.Same(other, sample()) {
				t.Errorf("%v is like the sample", other)
			}
		}
	}
	turned := sample()
	turned.L[0], turned.L[1] = turned.L[1], turned.L[0]
	if term.Same(sample(), turned) {
		t.Error("the order does not matter")
	}
}

func TestBare(t *testing.T) {
	s := sample()
	b := term.Bare(s)
	if !term.Same(s, b) {
		t.Error("not alike")
	}
	for _, p := range term.Paths(b) {
		if x, _ := term.At(b, p); x.From != 0 || x.To != 0 {
			t.Errorf("%v has a place", x)
		}
	}
	b.L[1].L[0].N = 100
	if !reflect.DeepEqual(s, sample()) {
		t.Error("memory is shared")
	}
}
