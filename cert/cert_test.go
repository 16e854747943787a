package cert_test

import (
	"bytes"
	"math"
	"reflect"
	"slices"
	"testing"

	"notary/api"
	"notary/cert"
)

var (
	empty = api.Deriv{K: api.DerSeq}
	some  = api.Deriv{K: api.DerAt, Path: []int{300}, L: []api.Deriv{{K: api.DerStep, Step: api.Step{Rule: 5, Term: api.Term{K: api.KNum, N: 1}}}}}
)

var certs = []struct {
	c api.Cert
	b []byte
}{
	{api.Cert{Deriv: empty}, []byte{78, 67, 0, 0, 2, 0}},
	{api.Cert{Pairs: []api.Pair{{A: 0, B: 1}, {A: 1, B: 0}, {A: 300, B: 7}}, Regions: []api.Region{{FromP: 0, ToP: 0, FromQ: 0, ToQ: 4}, {FromP: 1, ToP: 200, FromQ: 9, ToQ: 9}}, Deriv: some}, []byte{78, 67, 3, 0, 1, 1, 0, 172, 2, 7, 2, 0, 0, 0, 4, 1, 200, 1, 9, 9, 3, 1, 172, 2, 1, 1, 5, 0, 0, 0, 5, 2, 0}},
	{api.Cert{Pairs: []api.Pair{{A: math.MaxInt32, B: math.MaxInt32}}, Regions: []api.Region{{FromP: 5, ToP: math.MaxInt32, FromQ: 6, ToQ: math.MaxInt32}}, Deriv: empty}, []byte{78, 67, 1, 255, 255, 255, 255, 7, 255, 255, 255, 255, 7, 1, 5, 255, 255, 255, 255, 7, 6, 255, 255, 255, 255, 7, 2, 0}},
}

func TestBoth(t *testing.T) {
	for i, c := range certs {
		b, e := cert.Bytes(c.c)
		if e != api.OK || !bytes.Equal(b, c.b) {
			t.Errorf("%d: %v %d", i, b, e)
		}
		x, e := cert.Read(c.b)
		if e != api.OK || !reflect.DeepEqual(x, c.c) {
			t.Errorf("%d: %v %d", i, x, e)
		}
		for n := range c.b {
			if x, e := cert.Read(c.b[:n]); e != api.ErrShort || !reflect.DeepEqual(x, api.Cert{}) {
				t.Errorf("%d: the first %d bytes: %d", i, n, e)
			}
		}
		if _, e := cert.Read(append(slices.Clone(c.b), 0)); e != api.ErrForm {
			t.Errorf("%d with a byte more: %d", i, e)
		}
	}
}

// TestOneForm: whatever is read is written just so.
func TestOneForm(t *testing.T) {
	for _, c := range certs {
		for i := range c.b {
			for v := range 256 {
				b := slices.Clone(c.b)
				b[i] = byte(v)
				if x, e := cert.Read(b); e == api.OK {
					if w, e := cert.Bytes(x); e != api.OK || !bytes.Equal(w, b) {
						t.Errorf("%v is written %v", b, w)
					}
				}
			}
		}
	}
}

func TestReadErrors(t *testing.T) {
	big := []byte{128, 128, 128, 128, 8}
	head := func(l ...[]byte) []byte { return append([]byte{78, 67}, slices.Concat(l...)...) }
	for i, c := range []struct {
		b []byte
		e api.Errno
	}{
		{make([]byte, api.MaxBytes+1), api.ErrLong}, {make([]byte, api.MaxBytes), api.ErrForm}, {[]byte{77}, api.ErrForm}, {[]byte{78, 66}, api.ErrForm}, {[]byte{67, 78}, api.ErrForm}, {nil, api.ErrShort}, {[]byte{78}, api.ErrShort}, {[]byte{79}, api.ErrForm},
		{head([]byte{128, 0}), api.ErrForm}, {head([]byte{1}, big, []byte{0, 0, 2, 0}), api.ErrRange}, {head([]byte{1, 0}, big, []byte{0, 2, 0}), api.ErrRange}, {head(big), api.ErrShort}, {head([]byte{255, 255, 255, 255, 255, 255, 255, 255, 255, 1}), api.ErrShort}, {head([]byte{2, 1, 0, 1}, big), api.ErrRange}, {head([]byte{2, 1, 0, 1, 5}), api.ErrOrder}, {head([]byte{2, 1, 0, 0, 5}), api.ErrOrder}, {head([]byte{2, 1, 0, 2, 0}), api.ErrOrder}, {head([]byte{3, 1, 0, 2, 5, 3, 0}), api.ErrOrder},
		{head([]byte{0, 1, 5, 4, 0, 0, 2, 0}), api.ErrOrder}, {head([]byte{0, 1, 0, 0, 5, 4, 2, 0}), api.ErrOrder}, {head([]byte{0, 2, 0, 1, 0, 1, 1, 2, 2, 2, 2, 0}), api.ErrOrder}, {head([]byte{0, 2, 0, 1, 0, 1, 2, 2, 1, 2, 2, 0}), api.ErrOrder}, {head([]byte{0, 2, 0, 1, 0, 1, 2, 2, 2, 2, 2, 0}), api.OK}, {head([]byte{0, 1, 0, 0, 0}, big), api.ErrRange}, {head([]byte{0, 1, 9, 0, 0}, big), api.ErrRange}, {head([]byte{0}, big), api.ErrShort}, {head([]byte{0, 1, 128, 0}), api.ErrForm},
		{head([]byte{0, 0, 4}), api.ErrKind}, {head([]byte{0, 0, 1, 5, 2}), api.ErrForm}, {head([]byte{0, 0, 2, 0, 0}), api.ErrForm}, {head([]byte{0, 0, 1}, big), api.ErrRange}, {head([]byte{0, 0}, slices.Repeat([]byte{2, 1}, 65)), api.ErrDepth}, {head([]byte{0, 0, 1, 5, 0, 0, 0, 0}), api.ErrKind},
	} {
		if x, e := cert.Read(c.b); e != c.e || e != api.OK && !reflect.DeepEqual(x, api.Cert{}) {
			t.Errorf("%d: %d, not %d", i, e, c.e)
		}
	}
}

func TestWriteErrors(t *testing.T) {
	P := func(l ...int) []api.Pair {
		var out []api.Pair
		for i := 0; i < len(l); i += 2 {
			out = append(out, api.Pair{A: l[i], B: l[i+1]})
		}
		return out
	}
	R := func(l ...int) []api.Region {
		var out []api.Region
		for i := 0; i < len(l); i += 4 {
			out = append(out, api.Region{FromP: l[i], ToP: l[i+1], FromQ: l[i+2], ToQ: l[i+3]})
		}
		return out
	}
	bad := api.Deriv{K: 9}
	for i, c := range []struct {
		c api.Cert
		e api.Errno
	}{
		{api.Cert{}, api.ErrKind}, {api.Cert{Deriv: bad}, api.ErrKind}, {api.Cert{Pairs: P(-1, 0), Deriv: bad}, api.ErrRange}, {api.Cert{Pairs: P(0, 1<<31), Deriv: bad}, api.ErrRange}, {api.Cert{Pairs: P(1, 0, 1, 2), Deriv: bad}, api.ErrOrder}, {api.Cert{Pairs: P(1, 0, 0, -2), Deriv: bad}, api.ErrRange}, {api.Cert{Pairs: P(1, 0, 2, 0, -1, -1), Deriv: bad}, api.ErrOrder}, {api.Cert{Pairs: P(0, 5, 1, 4, 2, 5)}, api.ErrOrder},
		{api.Cert{Regions: R(0, 0, 0, math.MaxInt), Deriv: bad}, api.ErrRange}, {api.Cert{Regions: R(2, 1, 0, math.MinInt), Deriv: bad}, api.ErrRange}, {api.Cert{Regions: R(2, 1, 0, 0), Deriv: bad}, api.ErrOrder}, {api.Cert{Regions: R(0, 0, 2, 1), Deriv: bad}, api.ErrOrder}, {api.Cert{Regions: R(0, 1, 0, 1, 1, 1, 2, 2)}, api.ErrOrder}, {api.Cert{Regions: R(0, 1, 0, 1, 2, 2, 1, 1)}, api.ErrOrder}, {api.Cert{Regions: R(0, 1, 0, 1, 2, 2, 2, 2), Deriv: empty}, api.OK}, {api.Cert{Pairs: P(1, 0, 1, 0), Regions: R(-1, 0, 0, 0)}, api.ErrOrder},
		{api.Cert{Deriv: api.Deriv{K: api.DerSeq, Path: []int{1}}}, api.ErrForm}, {api.Cert{Deriv: api.Deriv{K: api.DerStep, Step: api.Step{Rule: -1}}}, api.ErrRange},
	} {
		if b, e := cert.Bytes(c.c); e != c.e || e != api.OK && len(b) != 0 {
			t.Errorf("%d: %d, not %d", i, e, c.e)
		}
	}
	many := func(n int) api.Cert {
		return api.Cert{Deriv: api.Deriv{K: api.DerSeq, L: slices.Repeat([]api.Deriv{empty}, n)}}
	}
	if b, e := cert.Bytes(many(32764)); e != api.OK || len(b) != api.MaxBytes {
		t.Error("just as long as may be", len(b), e)
	} else if _, e := cert.Read(b); e != api.OK {
		t.Error("just as long as may be", e)
	}
	if b, e := cert.Bytes(many(32765)); e != api.ErrLong || len(b) != 0 {
		t.Error("too long", len(b), e)
	}
}
