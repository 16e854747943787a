package varint_test

import (
	"bytes"
	"math"
	"testing"

	"notary/api"
	"notary/varint"
)

// numbers are ordinary ones, and those at each edge between so many groups and one more.
func numbers() []uint64 {
	l := []uint64{0, 1, 2, 5, 127, 128, 300, 1 << 32, math.MaxInt64, math.MaxUint64, math.MaxUint64 - 1}
	for i := 1; i < 64; i++ {
		l = append(l, 1<<i-1, 1<<i, 1<<i+1)
	}
	return l
}

func TestBytes(t *testing.T) {
	for _, c := range []struct {
		v uint64
		b []byte
	}{
		{0, []byte{0}}, {1, []byte{1}}, {127, []byte{127}}, {128, []byte{128, 1}}, {300, []byte{172, 2}},
		{16383, []byte{255, 127}}, {16384, []byte{128, 128, 1}},
		{math.MaxUint64, []byte{255, 255, 255, 255, 255, 255, 255, 255, 255, 1}},
		{1 << 63, []byte{128, 128, 128, 128, 128, 128, 128, 128, 128, 1}},
	} {
		if b := varint.Bytes(c.v); !bytes.Equal(b, c.b) {
			t.Errorf("Bytes(%d): %v", c.v, b)
		}
		if v, at, e := varint.Get(c.b, 0); v != c.v || at != len(c.b) || e != api.OK {
			t.Errorf("Get(%v): %d %d %d", c.b, v, at, e)
		}
	}
}

func TestGetErrors(t *testing.T) {
	nine := bytes.Repeat([]byte{255}, 9)
	for _, c := range []struct {
		b  []byte
		at int
		e  api.Errno
	}{
		{nil, -1, api.ErrRange}, {nil, 1, api.ErrRange}, {[]byte{1}, 2, api.ErrRange}, {[]byte{1}, math.MinInt, api.ErrRange}, {[]byte{1}, math.MaxInt, api.ErrRange},
		{nil, 0, api.ErrShort}, {[]byte{1}, 1, api.ErrShort}, {[]byte{128}, 0, api.ErrShort}, {nine, 0, api.ErrShort},
		{[]byte{128, 0}, 0, api.ErrForm}, {[]byte{128, 128, 0, 1}, 0, api.ErrForm}, {[]byte{9, 255, 0}, 1, api.ErrForm},
		{append(bytes.Clone(nine), 2), 0, api.ErrForm}, {append(bytes.Clone(nine), 0), 0, api.ErrForm},
		{append(bytes.Clone(nine), 129), 0, api.ErrForm}, {append(bytes.Clone(nine), 129, 1), 0, api.ErrForm}, {append(bytes.Clone(nine), 255), 0, api.ErrForm},
	} {
		if v, at, e := varint.Get(c.b, c.at); v != 0 || at != 0 || e != c.e {
			t.Errorf("Get(%v, %d): %d %d %d, not %d", c.b, c.at, v, at, e, c.e)
		}
	}
}

func TestZig(t *testing.T) {
	for _, c := range []struct {
		n int64
		v uint64
	}{
		{0, 0}, {-1, 1}, {1, 2}, {-2, 3}, {2, 4}, {math.MaxInt64, math.MaxUint64 - 1}, {math.MinInt64, math.MaxUint64},
	} {
		if v := varint.Zig(c.n); v != c.v {
			t.Errorf("Zig(%d): %d", c.n, v)
		}
		if n := varint.Zag(c.v); n != c.n {
			t.Errorf("Zag(%d): %d", c.v, n)
		}
	}
	for _, v := range numbers() {
		if varint.Zig(varint.Zag(v)) != v || varint.Zag(varint.Zig(int64(v))) != int64(v) {
			t.Errorf("%d does not come back", v)
		}
	}
}

func TestThereAndBack(t *testing.T) {
	for _, v := range numbers() {
		b := append([]byte{7, 200}, varint.Bytes(v)...)
		end := len(b)
		b = append(b, 255, 0)
		if x, at, e := varint.Get(b, 2); x != v || at != end || e != api.OK {
			t.Errorf("%d is read as %d, to %d, %d", v, x, at, e)
		}
	}
	for i := range 1 << 16 {
		b := []byte{byte(i), byte(i >> 8)}
		if v, at, e := varint.Get(b, 0); e == api.OK && !bytes.Equal(varint.Bytes(v), b[:at]) {
			t.Errorf("%v is read as %d, which is written otherwise", b, v)
		}
	}
}
