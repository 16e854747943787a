package chain_test

import (
	"bytes"
	"encoding/binary"
	"math"
	"slices"
	"testing"

	"notary/api"
	"notary/chain"
	"notary/entry"
	"notary/hmac"
)

var key = []byte("key")

func note(l ...byte) api.Entry { return api.Entry{Kind: api.EntNote, Body: l} }

var three = []api.Entry{note(1, 2), {Kind: api.EntAccept, Body: bytes.Repeat([]byte{9}, 104)}, {Kind: api.EntReject}}

func build(t *testing.T, l ...api.Entry) ([]byte, []byte) {
	t.Helper()
	log, tag, e := chain.Build(key, l)
	if e != api.OK {
		t.Fatal(e)
	}
	return log, tag
}

func TestFirst(t *testing.T) {
	f := chain.First()
	if !bytes.Equal(f, make([]byte, 32)) {
		t.Error(f)
	}
	f[0] = 1
	if chain.First()[0] != 0 {
		t.Error("the first tag is handed out itself")
	}
}

func TestMessage(t *testing.T) {
	ahead := bytes.Repeat([]byte{7}, 32)
	for _, n := range []uint64{0, 1, 258, math.MaxUint64, 1 << 63} {
		b, e := chain.Message(ahead, n, note(4, 5))
		want := slices.Concat(ahead, binary.BigEndian.AppendUint64(nil, n), []byte{1, 4, 5})
		if e != api.OK || !bytes.Equal(b, want) {
			t.Errorf("%d: %v %d", n, b, e)
		}
	}
	for i, c := range []struct {
		ahead []byte
		x     api.Entry
		e     api.Errno
	}{{nil, api.Entry{}, api.ErrForm}, {ahead[1:], note(), api.ErrForm}, {append(slices.Clone(ahead), 1), note(), api.ErrForm}, {ahead, api.Entry{}, api.ErrKind}, {ahead, api.Entry{Kind: 1, Body: make([]byte, 1025)}, api.ErrLong}, {ahead, api.Entry{Kind: 1, Body: make([]byte, 1024)}, api.OK}} {
		if b, e := chain.Message(c.ahead, 1, c.x); e != c.e || e != api.OK && len(b) != 0 {
			t.Errorf("%d: %d", i, e)
		}
	}
}

func TestBuild(t *testing.T) {
	log, tag := build(t, three...)
	var want []byte
	last := chain.First()
	for i, x := range three {
		m, _ := chain.Message(last, uint64(i+1), x)
		last = hmac.Tag(key, m)
		f, _ := entry.Frame(x, last)
		want = append(want, f...)
	}
	if !bytes.Equal(log, want) || !bytes.Equal(tag, last) {
		t.Error("another log")
	}
	if log, tag := build(t); len(log) != 0 || !bytes.Equal(tag, chain.First()) {
		t.Error("an empty log", log, tag)
	}
	for _, c := range []struct {
		x api.Entry
		e api.Errno
	}{{api.Entry{}, api.ErrKind}, {api.Entry{Kind: 3, Body: make([]byte, 1025)}, api.ErrLong}} {
		for _, l := range [][]api.Entry{{c.x}, {note(1), c.x}, {c.x, {Kind: 77}, note()}} {
			if log, tag, e := chain.Build(key, l); e != c.e || len(log) != 0 || len(tag) != 0 {
				t.Errorf("%v: %d", l, e)
			}
		}
	}
}

func TestEntries(t *testing.T) {
	log, tag := build(t, three...)
	kept := slices.Clone(log)
	l, last, e := chain.Entries(key, log)
	if e != api.OK || len(l) != 3 || !bytes.Equal(last, tag) || !bytes.Equal(log, kept) {
		t.Fatal(l, e)
	}
	for i, x := range l {
		if x.Kind != three[i].Kind || !bytes.Equal(x.Body, three[i].Body) {
			t.Errorf("%d: %v", i, x)
		}
	}
	last[0]++
	if _, again, _ := chain.Entries(key, log); !bytes.Equal(again, tag) {
		t.Error("memory is shared")
	}
	if l, last, e := chain.Entries(key, nil); e != api.OK || len(l) != 0 || !bytes.Equal(last, chain.First()) {
		t.Error("an empty log", e)
	}
	one, _ := build(t, three[:1]...)
	two, _ := build(t, three[:2]...)
	changed := func(b []byte, i int) []byte {
		b = slices.Clone(b)
		b[i] ^= 1
		return b
	}
	for i, c := range []struct {
		log []byte
		e   api.Errno
	}{
		{log[:len(log)-1], api.ErrShort}, {append(slices.Clone(log), 0, 0, 0), api.ErrShort}, {append(slices.Clone(log), 0, 0, 0, 0), api.ErrForm}, {append(slices.Clone(log), 9, 9, 9, 9), api.ErrLong}, {changed(log, 5), api.ErrTag}, {changed(log, 4), api.ErrKind}, {changed(log, 10), api.ErrTag}, {changed(log, len(one)+30), api.ErrTag}, {log[len(one):], api.ErrTag}, {append(slices.Clone(one), one...), api.ErrTag}, {append(slices.Clone(one), log[len(two):]...), api.ErrTag}, {append(changed(one, 6), 0), api.ErrTag}, {[]byte{1}, api.ErrShort}, {log[:len(two)], api.OK}, {append(slices.Clone(two), 0, 0, 0, 0), api.ErrForm},
	} {
		l, tag, e := chain.Entries(key, c.log)
		if e != c.e || e != api.OK && (len(l) != 0 || len(tag) != 0) {
			t.Errorf("%d: %d, not %d", i, e, c.e)
		}
	}
	if _, _, e := chain.Entries([]byte("other"), log); e != api.ErrTag {
		t.Error("another key", e)
	}
}

func TestVerify(t *testing.T) {
	log, tag := build(t, three...)
	_, other := build(t, three[:2]...)
	for i, c := range []struct {
		key, log []byte
		count    int
		tag      []byte
		ok       bool
	}{
		{key, log, 3, tag, true}, {key, log, 2, tag, false}, {key, log, 4, tag, false}, {key, log, 3, other, false}, {key, log, 3, nil, false}, {key, log, 3, tag[:31], false}, {nil, log, 3, tag, false}, {key, log[:len(log)-1], 3, tag, false}, {key, log, -1, tag, false}, {key, log, math.MaxInt, tag, false},
		{key, nil, 0, chain.First(), true}, {nil, nil, 0, chain.First(), true}, {key, nil, 0, nil, false}, {key, nil, 0, tag, false}, {key, nil, 1, chain.First(), false}, {key, nil, 0, make([]byte, 33), false},
	} {
		if chain.Verify(c.key, c.log, c.count, c.tag) != c.ok {
			t.Errorf("%d: not %v", i, c.ok)
		}
	}
	for i := range log {
		b := slices.Clone(log)
		b[i] ^= 128
		if chain.Verify(key, b, 3, tag) {
			t.Errorf("another byte %d verifies", i)
		}
	}
}

func TestClash(t *testing.T) {
	tagOf := func(n byte) []byte { return bytes.Repeat([]byte{n}, 32) }
	log := func(l ...any) []byte {
		var out []byte
		for i := 0; i < len(l); i += 2 {
			f, e := entry.Frame(l[i].(api.Entry), tagOf(byte(l[i+1].(int))))
			if e != api.OK {
				t.Fatal(e)
			}
			out = append(out, f...)
		}
		return out
	}
	message := func(ahead []byte, n uint64, x api.Entry) []byte {
		m, _ := chain.Message(ahead, n, x)
		return m
	}
	a, b, c := note(1), note(2), note(3)
	for i, x := range []struct {
		l, r, m, n []byte
		ok         bool
	}{
		{nil, nil, nil, nil, false}, {log(a, 1), log(a, 1), nil, nil, false}, {log(a, 1), log(b, 2), nil, nil, false}, {log(a, 1), log(b, 1), message(chain.First(), 1, a), message(chain.First(), 1, b), true}, {log(a, 1), nil, nil, nil, false}, {log(a, 1), log(a, 1, b, 2), nil, nil, false},
		{log(a, 1, b, 2), log(c, 3, b, 2), message(tagOf(1), 2, b), message(tagOf(3), 2, b), true}, {log(a, 1, b, 2), log(c, 1, b, 2), message(chain.First(), 1, a), message(chain.First(), 1, c), true}, {log(a, 1, b, 2), log(c, 1, c, 2), message(tagOf(1), 2, b), message(tagOf(1), 2, c), true}, {log(a, 1, b, 2), log(c, 1, b, 3), nil, nil, false}, {log(a, 1, b, 2), log(a, 1, b, 3), nil, nil, false}, {log(a, 1, b, 2, c, 3), log(b, 1, b, 2, c, 3), message(chain.First(), 1, a), message(chain.First(), 1, b), true}, {log(a, 1, b, 2), log(a, 1, b, 2), nil, nil, false},
		{log(a, 1)[:36], log(b, 1), nil, nil, false}, {log(a, 1), append(log(b, 1), 0), nil, nil, false}, {[]byte{0}, []byte{1}, nil, nil, false},
	} {
		m, n, ok := chain.Clash(x.l, x.r)
		if ok != x.ok || !bytes.Equal(m, x.m) || !bytes.Equal(n, x.n) {
			t.Errorf("%d: %v %v %v", i, m, n, ok)
		}
		n, m, ok = chain.Clash(x.r, x.l)
		if ok != x.ok || !bytes.Equal(m, x.m) || !bytes.Equal(n, x.n) {
			t.Errorf("%d the other way round: %v %v %v", i, m, n, ok)
		}
	}
	one, _ := build(t, three...)
	two, _ := build(t, three[0], three[1], note(5))
	if _, _, ok := chain.Clash(one, two); ok {
		t.Error("real logs do not clash")
	}
}
