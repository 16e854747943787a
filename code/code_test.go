package code_test

import (
	"bytes"
	"math"
	"reflect"
	"slices"
	"testing"

	"notary/api"
	"notary/code"
	"notary/right"
)

type (
	T = api.Term
	D = api.Deriv
	S = api.Step
)

func chain(depth int) T {
	t := T{K: api.KNum}
	for range depth - 1 {
		t = T{K: api.KUn, N: 1, L: []T{t}}
	}
	return t
}

func nested(depth int) D {
	d := D{K: api.DerSeq}
	for range depth - 1 {
		d = D{K: api.DerAt, L: []D{d}}
	}
	return d
}

var terms = []struct {
	t T
	b []byte
}{
	{T{K: api.KNum, N: 3}, []byte{5, 6, 0}}, {T{K: api.KNum, N: -1}, []byte{5, 1, 0}}, {T{K: 1}, []byte{1, 0, 0}}, {T{K: api.KModule}, []byte{36, 0, 0}}, {T{K: api.KLocal, N: 100}, []byte{7, 200, 1, 0}}, {T{K: api.KNum, N: math.MinInt64}, []byte{5, 255, 255, 255, 255, 255, 255, 255, 255, 255, 1, 0}},
	{T{K: api.KBin, N: api.OpAdd, L: []T{{K: api.KLocal}, {K: api.KUn, N: 1, L: []T{{K: api.KNum, N: 7}}}}}, []byte{10, 18, 2, 7, 0, 0, 11, 2, 1, 5, 14, 0}},
}

var derivs = []struct {
	d D
	b []byte
}{
	{D{K: api.DerSeq}, []byte{2, 0}}, {D{K: api.DerAt}, []byte{3, 0, 0}}, {D{K: api.DerAt, Path: []int{0, 300}}, []byte{3, 2, 0, 172, 2, 0}},
	{D{K: api.DerStep, Step: S{Rule: 5, Path: []int{0, 2}, Nums: []int{9}, Term: T{K: api.KNum, N: 1}}}, []byte{1, 5, 0, 2, 0, 2, 1, 9, 5, 2, 0}},
	{D{K: api.DerStep, Step: S{Rule: 200, Back: true, Term: T{K: api.KLocal}}}, []byte{1, 200, 1, 1, 0, 0, 7, 0, 0}},
	{D{K: api.DerSeq, L: []D{{K: api.DerSeq}, {K: api.DerAt, Path: []int{1}, L: []D{{K: api.DerStep, Step: S{Term: T{K: 1}}}}}}}, []byte{2, 2, 2, 0, 3, 1, 1, 1, 1, 0, 0, 0, 0, 1, 0, 0}},
	{D{K: api.DerStep, Step: S{Rule: math.MaxInt32, Nums: []int{math.MaxInt32}, Term: T{K: 1}}}, []byte{1, 255, 255, 255, 255, 7, 0, 0, 1, 255, 255, 255, 255, 7, 1, 0, 0}},
}

// among is bytes with others ahead and behind.
func among(b []byte) []byte {
	return append(append([]byte{9, 200, 5}, b...), 128, 0)
}

func TestTerms(t *testing.T) {
	for _, c := range terms {
		b, e := code.Term(c.t)
		if e != api.OK || !bytes.Equal(b, c.b) {
			t.Errorf("%v: %v %d", c.t, b, e)
		}
		x, at, e := code.ReadTerm(among(c.b), 3)
		if e != api.OK || at != 3+len(c.b) || !reflect.DeepEqual(x, c.t) {
			t.Errorf("%v: %v %d %d", c.b, x, at, e)
		}
		for n := range c.b {
			if x, at, e := code.ReadTerm(c.b[:n], 0); e != api.ErrShort || at != 0 || !reflect.DeepEqual(x, T{}) {
				t.Errorf("%v: %d %d", c.b[:n], at, e)
			}
		}
	}
	_, m, _, e := right.Read("rec R { a: int; } var g: [3]R; pub fn f(x: int): int { for i = 1 to x { g[i].a = -x * 100; } return g[0].a; }")
	b, e2 := code.Term(m)
	x, at, e3 := code.ReadTerm(b, 0)
	if e != api.OK || e2 != api.OK || e3 != api.OK || at != len(b) || !reflect.DeepEqual(x, m) {
		t.Error("a module", e, e2, e3)
	}
}

func TestDerivs(t *testing.T) {
	for _, c := range derivs {
		b, e := code.Deriv(c.d)
		if e != api.OK || !bytes.Equal(b, c.b) {
			t.Errorf("%v: %v %d", c.d, b, e)
		}
		x, at, e := code.ReadDeriv(among(c.b), 3)
		if e != api.OK || at != 3+len(c.b) || !reflect.DeepEqual(x, c.d) {
			t.Errorf("%v: %v %d %d", c.b, x, at, e)
		}
		for n := range c.b {
			if x, at, e := code.ReadDeriv(c.b[:n], 0); e != api.ErrShort || at != 0 || !reflect.DeepEqual(x, D{}) {
				t.Errorf("%v: %d %d", c.b[:n], at, e)
			}
		}
	}
}

// TestOneForm: whatever bytes are read, they are written just so.
func TestOneForm(t *testing.T) {
	var seeds [][]byte
	for _, c := range terms {
		seeds = append(seeds, c.b)
	}
	for _, c := range derivs {
		seeds = append(seeds, c.b)
	}
	for _, s := range seeds {
		for i := range s {
			for v := range 256 {
				b := slices.Clone(s)
				b[i] = byte(v)
				if x, at, e := code.ReadTerm(b, 0); e == api.OK {
					if w, e := code.Term(x); e != api.OK || !bytes.Equal(w, b[:at]) {
						t.Errorf("%v is written %v", b, w)
					}
				}
				if x, at, e := code.ReadDeriv(b, 0); e == api.OK {
					if w, e := code.Deriv(x); e != api.OK || !bytes.Equal(w, b[:at]) {
						t.Errorf("%v is written %v", b, w)
					}
				}
			}
		}
	}
}

func TestReadErrors(t *testing.T) {
	big := []byte{128, 128, 128, 128, 8}
	deep := slices.Repeat([]byte{11, 2, 1}, 64)
	deepD := slices.Repeat([]byte{3, 0, 1}, 64)
	for i, c := range []struct {
		b  []byte
		at int
		e  api.Errno
	}{
		{nil, -1, api.ErrRange}, {nil, 1, api.ErrRange}, {nil, math.MaxInt, api.ErrRange}, {nil, math.MinInt, api.ErrRange}, {nil, 0, api.ErrShort}, {[]byte{5, 0, 0}, 3, api.ErrShort},
		{[]byte{0}, 0, api.ErrKind}, {[]byte{37}, 0, api.ErrKind}, {[]byte{255, 0, 0}, 0, api.ErrKind}, {[]byte{5, 128, 0}, 0, api.ErrForm}, {[]byte{5, 0, 128, 0}, 0, api.ErrForm}, {[]byte{11, 2, 1, 0}, 0, api.ErrKind}, {[]byte{10, 2, 255, 255, 255, 255, 255, 255, 255, 255, 255, 1, 5, 0, 0, 0}, 0, api.ErrKind}, {append([]byte{10, 2}, append(slices.Clone(big), 5, 0, 0)...), 0, api.ErrShort},
		{deep, 0, api.ErrDepth}, {append(slices.Clone(deep), 5, 0, 0), 0, api.ErrDepth}, {append(slices.Clone(deep), 0), 0, api.ErrDepth}, {append(slices.Clone(deep[3:]), 5, 0, 0), 0, api.OK}, {slices.Clone(deep[3:]), 0, api.ErrShort},
	} {
		if x, at, e := code.ReadTerm(c.b, c.at); e != c.e || e != api.OK && (at != 0 || !reflect.DeepEqual(x, T{})) {
			t.Errorf("term %d: %d %d, not %d", i, at, e, c.e)
		}
	}
	for i, c := range []struct {
		b  []byte
		at int
		e  api.Errno
	}{
		{nil, -1, api.ErrRange}, {nil, 1, api.ErrRange}, {nil, 0, api.ErrShort}, {[]byte{0}, 0, api.ErrKind}, {[]byte{4}, 0, api.ErrKind}, {[]byte{5, 0, 0}, 0, api.ErrKind}, {[]byte{2, 1, 0}, 0, api.ErrKind},
		{append([]byte{1}, big...), 0, api.ErrRange}, {append([]byte{1, 5, 0, 1}, big...), 0, api.ErrRange}, {append([]byte{1, 5, 0, 0, 2, 1}, big...), 0, api.ErrRange}, {append([]byte{3, 1}, big...), 0, api.ErrRange}, {append([]byte{3}, big...), 0, api.ErrShort}, {append([]byte{2}, big...), 0, api.ErrShort}, {append([]byte{1, 5, 0}, big...), 0, api.ErrShort}, {[]byte{1, 255, 255, 255, 255, 255, 255, 255, 255, 255, 2}, 0, api.ErrForm},
		{[]byte{1, 5, 2}, 0, api.ErrForm}, {[]byte{1, 5, 255, 0}, 0, api.ErrForm}, {[]byte{1, 128, 0}, 0, api.ErrForm}, {[]byte{1, 5, 0, 0, 0, 0}, 0, api.ErrKind}, {[]byte{1, 5, 0, 1, 128, 0}, 0, api.ErrForm},
		{deepD, 0, api.ErrDepth}, {append(slices.Clone(deepD), 2, 0), 0, api.ErrDepth}, {append(slices.Clone(deepD[3:]), 2, 0), 0, api.OK}, {append(append(slices.Clone(deepD[3:]), 1, 5, 0, 0, 0), append(slices.Clone(deep[3:]), 5, 0, 0)...), 0, api.OK}, {append(append(slices.Clone(deepD[3:]), 1, 5, 0, 0, 0), append(slices.Clone(deep), 5, 0, 0)...), 0, api.ErrDepth},
	} {
		if x, at, e := code.ReadDeriv(c.b, c.at); e != c.e || e != api.OK && (at != 0 || !reflect.DeepEqual(x, D{})) {
			t.Errorf("derivation %d: %d %d, not %d", i, at, e, c.e)
		}
	}
	two := append(slices.Clone(deep[3:]), 5, 0, 0)
	pair := append(append([]byte{10, 2, 2}, deep[6:]...), 5, 0, 0)
	pair = append(append(pair, deep[6:]...), 5, 0, 0)
	for _, b := range [][]byte{two, pair} {
		if _, at, e := code.ReadTerm(b, 0); e != api.OK || at != len(b) {
			t.Error("a level is left again", at, e)
		}
	}
}

func TestWriteErrors(t *testing.T) {
	one := T{K: 1}
	for i, c := range []struct {
		t T
		e api.Errno
	}{
		{T{}, api.ErrKind}, {T{K: -1}, api.ErrKind}, {T{K: api.KModule + 1}, api.ErrKind}, {T{K: 257}, api.ErrKind}, {T{K: 0, S: "s"}, api.ErrKind}, {T{K: 1, S: "s"}, api.ErrForm}, {T{K: 1, From: 1}, api.ErrForm}, {T{K: 1, To: -1}, api.ErrForm}, {T{K: 1, S: "s", L: []T{{}}}, api.ErrForm}, {T{K: 1, L: []T{one, {}}}, api.ErrKind}, {T{K: 1, L: []T{{K: 1, To: 2}, {}}}, api.ErrForm},
		{chain(64), api.OK}, {chain(65), api.ErrDepth}, {chain(9000), api.ErrDepth}, {T{K: 1, L: []T{chain(63), chain(63)}}, api.OK}, {T{K: 1, L: []T{chain(64), {}}}, api.ErrDepth},
	} {
		if b, e := code.Term(c.t); e != c.e || e != api.OK && len(b) != 0 {
			t.Errorf("term %d: %d, not %d", i, e, c.e)
		}
		if b, e := code.Deriv(D{K: api.DerStep, Step: S{Term: c.t}}); e != c.e || e != api.OK && len(b) != 0 {
			t.Errorf("the term of a step %d: %d, not %d", i, e, c.e)
		}
	}
	for i, c := range []struct {
		d D
		e api.Errno
	}{
		{D{}, api.ErrKind}, {D{K: 4}, api.ErrKind}, {D{K: -1, Path: []int{1}}, api.ErrKind}, {D{K: 258}, api.ErrKind}, {D{K: api.DerStep, Path: []int{1}, Step: S{Term: one}}, api.ErrForm}, {D{K: api.DerStep, L: []D{{}}, Step: S{Term: one}}, api.ErrForm}, {D{K: api.DerSeq, Path: []int{1}}, api.ErrForm}, {D{K: api.DerSeq, Step: S{Rule: 1}}, api.ErrForm}, {D{K: api.DerAt, Step: S{Back: true}}, api.ErrForm}, {D{K: api.DerAt, Step: S{Nums: []int{1}}, L: []D{{}}}, api.ErrForm}, {D{K: api.DerSeq, Step: S{Term: T{From: 1}}}, api.ErrForm}, {D{K: api.DerSeq, L: []D{{K: api.DerSeq}, {}}}, api.ErrKind},
		{D{K: api.DerStep, Step: S{Rule: -1, Term: one}}, api.ErrRange}, {D{K: api.DerStep, Step: S{Rule: 1 << 31, Term: T{}}}, api.ErrRange}, {D{K: api.DerStep, Step: S{Path: []int{0, -1}, Term: one}}, api.ErrRange}, {D{K: api.DerStep, Step: S{Nums: []int{1 << 31}, Term: T{}}}, api.ErrRange}, {D{K: api.DerAt, Path: []int{math.MinInt}, L: []D{{}}}, api.ErrRange}, {D{K: api.DerAt, Path: []int{math.MaxInt}}, api.ErrRange},
		{nested(64), api.OK}, {nested(65), api.ErrDepth}, {nested(5000), api.ErrDepth}, {D{K: api.DerSeq, L: []D{nested(63), nested(63)}}, api.OK}, {D{K: api.DerSeq, L: []D{nested(64), {}}}, api.ErrDepth},
	} {
		if b, e := code.Deriv(c.d); e != c.e || e != api.OK && len(b) != 0 {
			t.Errorf("derivation %d: %d, not %d", i, e, c.e)
		}
	}
}
