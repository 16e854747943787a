package face_test

import (
	"reflect"
	"slices"
	"testing"

	"notary/api"
	"notary/face"
	"notary/right"
)

var (
	integer = api.Term{K: api.KInt}
	truth   = api.Term{K: api.KBool}
)

func of(t *testing.T, text string) []api.Face {
	t.Helper()
	m, s, _, e := right.Read(text)
	if e != api.OK {
		t.Fatalf("%q: %d", text, e)
	}
	return face.Of(m, s)
}

func TestOf(t *testing.T) {
	l := of(t, "var v: int; fn p(a: int): int { } pub fn f(a: int): bool { } rec R { a: int; } pub fn g(): [2]int { } pub fn h(a: bool, b: [3]int): int { }")
	want := []api.Face{
		{Name: "f", Params: []api.Term{integer}, Ret: truth, Decl: 2},
		{Name: "g", Ret: api.Term{K: api.KArr, N: 2, L: []api.Term{integer}}, Decl: 4},
		{Name: "h", Params: []api.Term{truth, {K: api.KArr, N: 3, L: []api.Term{integer}}}, Ret: integer, Decl: 5},
	}
	if !reflect.DeepEqual(l, want) {
		t.Error(l)
	}
	if len(of(t, "")) != 0 || len(of(t, "fn f(): int { }")) != 0 {
		t.Error("no faces")
	}
	three := []api.Term{{K: api.KParams}, integer, {K: api.KBlock}}
	for _, d := range []api.Term{{K: api.KVar, N: 1, L: three}, {K: api.KFn, N: 0, L: three}, {K: api.KFn, N: 2, L: three}} {
		if m := (api.Term{K: api.KModule, L: []api.Term{d}}); len(face.Of(m, m)) != 0 {
			t.Errorf("%v is a face", d)
		}
	}
	for k := -1; k <= api.KModule+1; k++ {
		x := api.Term{K: k, N: 1, L: []api.Term{{K: k, N: 1}, {K: api.KFn, N: 1, L: []api.Term{{L: []api.Term{{}}}}}}}
		face.Of(x, x)
		face.Of(x, api.Term{})
		face.Of(api.Term{}, x)
	}
}

func f(name string, decl int, ret api.Term, params ...api.Term) api.Face {
	return api.Face{Name: name, Decl: decl, Ret: ret, Params: params}
}

func TestNames(t *testing.T) {
	type pairs = []api.Pair
	type faces = []api.Face
	type names = []api.Naming
	two := faces{f("f", 1, integer), f("g", 3, truth, integer)}
	for i, c := range []struct {
		p, q faces
		l    pairs
		want names
		ok   bool
	}{
		{nil, nil, nil, nil, true}, {nil, nil, pairs{{A: 1, B: 2}}, nil, true}, {two, two, pairs{{A: 1, B: 1}, {A: 3, B: 3}}, names{{Old: "f", New: "f"}, {Old: "g", New: "g"}}, true},
		{two, faces{f("x", 0, truth, integer), f("y", 5, integer)}, pairs{{A: 0, B: 9}, {A: 1, B: 5}, {A: 3, B: 0}}, names{{Old: "f", New: "y"}, {Old: "g", New: "x"}}, true},
		{two, two, pairs{{A: 1, B: 3}, {A: 3, B: 1}}, nil, false}, {two, two, pairs{{A: 1, B: 1}}, nil, false}, {two, two, nil, nil, false}, {two, two[:1], pairs{{A: 1, B: 1}, {A: 3, B: 3}}, nil, false}, {two[:1], two, pairs{{A: 1, B: 1}, {A: 3, B: 3}}, nil, false}, {two[:1], two[:1], pairs{{A: 1, B: 1}, {A: 3, B: 3}}, names{{Old: "f", New: "f"}}, true},
		{two[:1], two[:1], pairs{{A: 1, B: 2}, {A: 1, B: 1}}, nil, false}, {two[:1], two[:1], pairs{{A: 1, B: 1}, {A: 1, B: 2}}, names{{Old: "f", New: "f"}}, true}, {two[:1], two[:1], pairs{{A: 7, B: 1}, {A: 1, B: 1}}, nil, false}, {two[:1], two[:1], pairs{{A: 1, B: 1}, {A: 7, B: 1}}, names{{Old: "f", New: "f"}}, true},
		{faces{f("f", 1, integer, integer)}, faces{f("f", 1, integer)}, pairs{{A: 1, B: 1}}, nil, false}, {faces{f("f", 1, integer)}, faces{f("f", 1, truth)}, pairs{{A: 1, B: 1}}, nil, false}, {faces{f("f", 1, integer, truth)}, faces{f("f", 1, integer, integer)}, pairs{{A: 1, B: 1}}, nil, false}, {faces{f("f", 1, api.Term{K: api.KInt, From: 4, To: 7}, integer)}, faces{f("h", 1, integer, integer)}, pairs{{A: 1, B: 1}}, names{{Old: "f", New: "h"}}, true},
		{faces{f("f", 1, integer), f("g", 2, integer)}, faces{f("x", 1, integer)}, pairs{{A: 1, B: 1}, {A: 2, B: 1}}, nil, false}, {faces{f("f", 1, integer)}, faces{f("x", 1, integer), f("y", 2, integer)}, pairs{{A: 1, B: 1}, {A: 1, B: 2}}, nil, false}, {faces{f("f", 1, integer)}, faces{f("x", 2, integer), f("y", 2, truth)}, pairs{{A: 1, B: 2}}, nil, false},
		{faces{f("f", -5, integer)}, faces{f("x", 1<<40, integer)}, pairs{{A: -5, B: 1 << 40}}, names{{Old: "f", New: "x"}}, true},
	} {
		kept := slices.Clone(c.l)
		l, ok := face.Names(c.p, c.q, c.l)
		if ok != c.ok || !slices.Equal(l, c.want) || !slices.Equal(kept, c.l) {
			t.Errorf("%d: %v %v", i, l, ok)
		}
		var back pairs
		for _, x := range c.l {
			back = append(back, api.Pair{A: x.B, B: x.A})
		}
		if _, ok := face.Names(c.q, c.p, back); ok != c.ok {
			t.Errorf("%d: turned round %v", i, ok)
		}
	}
}
