package entry_test

import (
	"bytes"
	"math"
	"reflect"
	"slices"
	"testing"

	"notary/api"
	"notary/entry"
)

func tag(n byte) []byte {
	b := make([]byte, api.TagSize)
	for i := range b {
		b[i] = n + byte(i)
	}
	return b
}

var entries = []api.Entry{{Kind: api.EntNote}, {Kind: api.EntNote, Body: []byte{7, 8}}, {Kind: api.EntAccept, Body: bytes.Repeat([]byte{3}, 104)}, {Kind: api.EntReject, Body: bytes.Repeat([]byte{0, 255}, 127)}, {Kind: api.EntReject, Body: bytes.Repeat([]byte{1}, 255)}, {Kind: api.EntNote, Body: make([]byte, api.MaxBody)}}

func TestExample(t *testing.T) {
	b, e := entry.Frame(api.Entry{Kind: api.EntNote, Body: []byte{7, 8}}, tag(9))
	if e != api.OK || !bytes.Equal(b, append([]byte{0, 0, 0, 3, 1, 7, 8}, tag(9)...)) {
		t.Error(b, e)
	}
}

func TestBoth(t *testing.T) {
	for i, x := range entries {
		p, e := entry.Payload(x)
		if e != api.OK || !bytes.Equal(p, append([]byte{byte(x.Kind)}, x.Body...)) {
			t.Errorf("%d: %v %d", i, p, e)
		}
		f, e := entry.Frame(x, tag(5))
		n := len(x.Body) + 1
		if e != api.OK || len(f) != 4+n+32 || f[0] != 0 || f[1] != 0 || int(f[2])*256+int(f[3]) != n || !bytes.Equal(f[4:4+n], p) || !bytes.Equal(f[4+n:], tag(5)) {
			t.Errorf("%d: %v %d", i, f, e)
		}
		all := slices.Concat([]byte{1, 2, 3}, f, []byte{0, 0})
		y, g, at, e := entry.Read(all, 3)
		if e != api.OK || at != 3+len(f) || y.Kind != x.Kind || !bytes.Equal(y.Body, x.Body) || !bytes.Equal(g, tag(5)) {
			t.Errorf("%d: %v %v %d %d", i, y, g, at, e)
		}
		for j := range all {
			all[j] = 77
		}
		if len(x.Body) > 0 && !bytes.Equal(y.Body, x.Body) || !bytes.Equal(g, tag(5)) {
			t.Errorf("%d: memory is shared", i)
		}
		for n := range f {
			if y, g, at, e := entry.Read(f[:n], 0); e != api.ErrShort || at != 0 || len(g) != 0 || !reflect.DeepEqual(y, api.Entry{}) {
				t.Errorf("%d: the first %d bytes: %d", i, n, e)
			}
		}
	}
}

// TestOneForm: whatever is read was framed just so.
func TestOneForm(t *testing.T) {
	f, _ := entry.Frame(entries[1], tag(1))
	for i := range f {
		for v := range 256 {
			b := slices.Clone(f)
			b[i] = byte(v)
			if x, g, at, e := entry.Read(b, 0); e == api.OK {
				if w, e := entry.Frame(x, g); e != api.OK || !bytes.Equal(w, b[:at]) {
					t.Errorf("%v is framed %v", b, w)
				}
			}
		}
	}
}

func TestWriteErrors(t *testing.T) {
	long := make([]byte, api.MaxBody+1)
	for i, c := range []struct {
		x     api.Entry
		tag   []byte
		p, fr api.Errno
	}{
		{api.Entry{}, tag(1), api.ErrKind, api.ErrKind}, {api.Entry{Kind: 4, Body: long}, nil, api.ErrKind, api.ErrKind}, {api.Entry{Kind: -1}, nil, api.ErrKind, api.ErrKind}, {api.Entry{Kind: 257}, tag(1), api.ErrKind, api.ErrKind}, {api.Entry{Kind: math.MaxInt}, tag(1), api.ErrKind, api.ErrKind},
		{api.Entry{Kind: 1, Body: long}, nil, api.ErrLong, api.ErrLong}, {api.Entry{Kind: 1}, nil, api.OK, api.ErrForm}, {api.Entry{Kind: 1}, make([]byte, 31), api.OK, api.ErrForm}, {api.Entry{Kind: 1}, make([]byte, 33), api.OK, api.ErrForm},
	} {
		if b, e := entry.Payload(c.x); e != c.p || e != api.OK && len(b) != 0 {
			t.Errorf("%d: %d", i, e)
		}
		if b, e := entry.Frame(c.x, c.tag); e != c.fr || len(b) != 0 {
			t.Errorf("%d: %d", i, e)
		}
	}
	body := append(make([]byte, 0, 9), 5)
	p, _ := entry.Payload(api.Entry{Kind: 1, Body: body})
	p[1] = 6
	if body[0] != 5 || body[:2][1] != 0 {
		t.Error("memory is shared")
	}
}

func TestReadErrors(t *testing.T) {
	with := func(head ...byte) []byte { return append(head, make([]byte, 2000)...) }
	for i, c := range []struct {
		b  []byte
		at int
		e  api.Errno
	}{
		{nil, -1, api.ErrRange}, {nil, 1, api.ErrRange}, {[]byte{1}, 2, api.ErrRange}, {nil, math.MinInt, api.ErrRange}, {nil, math.MaxInt, api.ErrRange}, {nil, 0, api.ErrShort}, {[]byte{0, 0, 0}, 0, api.ErrShort}, {[]byte{0, 0, 0, 0}, 0, api.ErrForm}, {[]byte{0, 0, 0, 1}, 0, api.ErrShort}, {[]byte{0, 0, 4, 1}, 0, api.ErrShort}, {[]byte{0, 0, 4, 2}, 0, api.ErrLong}, {[]byte{255, 255, 255, 255}, 0, api.ErrLong}, {[]byte{1, 0, 0, 1}, 0, api.ErrLong}, {[]byte{0, 1, 0, 1}, 0, api.ErrLong},
		{append([]byte{0, 0, 0, 1, 9}, make([]byte, 31)...), 0, api.ErrShort}, {append([]byte{0, 0, 0, 1, 9}, make([]byte, 32)...), 0, api.ErrKind}, {append([]byte{0, 0, 0, 1, 0}, make([]byte, 32)...), 0, api.ErrKind}, {append([]byte{0, 0, 0, 1, 4}, make([]byte, 32)...), 0, api.ErrKind}, {with(0, 0, 4, 1, 3), 0, api.OK}, {with(0, 0, 4, 1, 255), 0, api.ErrKind}, {with(9, 0, 0, 0, 0), 1, api.ErrForm},
	} {
		x, g, at, e := entry.Read(c.b, c.at)
		if e != c.e || e != api.OK && (at != 0 || len(g) != 0 || !reflect.DeepEqual(x, api.Entry{})) {
			t.Errorf("%d: %d, not %d", i, e, c.e)
		}
	}
}
