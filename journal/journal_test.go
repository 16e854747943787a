package journal_test

import (
	"bytes"
	"slices"
	"testing"

	"notary/api"
	"notary/chain"
	"notary/device"
	"notary/journal"
)

var key = []byte("key")

func note(l ...byte) api.Entry { return api.Entry{Kind: api.EntNote, Body: l} }

// is asks that a journal has these entries, and that its log verifies.
func is(t *testing.T, j *journal.Journal, d *device.Device, l ...api.Entry) {
	t.Helper()
	log, tag, e := chain.Build(key, l)
	if e != api.OK || j.Count() != len(l) || !bytes.Equal(j.Tag(), tag) || !bytes.Equal(j.Log(), log) || !bytes.Equal(d.Bytes(), log) || !chain.Verify(key, j.Log(), j.Count(), j.Tag()) {
		t.Errorf("%d entries, not %d: %v", j.Count(), len(l), j.Log())
	}
	got := j.Entries()
	if !slices.EqualFunc(got, l, func(a, b api.Entry) bool { return a.Kind == b.Kind && bytes.Equal(a.Body, b.Body) }) {
		t.Errorf("%v, not %v", got, l)
	}
}

func TestExample(t *testing.T) {
	for keep, n := range map[int]int{37: 1, 38: 2, 0: 1, 36: 1, 99: 2, -1: 1} {
		d := device.New(1000)
		j := journal.Open(key, d)
		j.Append(note(1))
		j.Sync()
		j.Append(note(2))
		d.Crash(keep)
		again := journal.Open(key, d)
		is(t, again, d, []api.Entry{note(1), note(2)}[:n]...)
		if e := again.Append(note(3)); e != api.OK {
			t.Error(e)
		}
		is(t, again, d, append([]api.Entry{note(1), note(2)}[:n:n], note(3))...)
	}
}

func TestAppend(t *testing.T) {
	d := device.New(1000)
	k := slices.Clone(key)
	j := journal.Open(k, d)
	is(t, j, d)
	var l []api.Entry
	for _, x := range []api.Entry{note(), note(1, 2, 3), {Kind: api.EntAccept, Body: []byte{4}}, {Kind: api.EntReject, Body: make([]byte, 300)}} {
		if e := j.Append(x); e != api.OK {
			t.Error(e)
		}
		l = append(l, x)
		is(t, j, d, l...)
	}
	k[0]++
	body := []byte{5}
	j.Append(note(body...))
	is(t, j, d, append(l, note(5))...)
	j.Tag()[0]++
	j.Log()[3]++
	j.Entries()[1].Body[0]++
	is(t, j, d, append(l, note(5))...)
	is(t, journal.Open(key, d), d, append(l, note(5))...)
	if d.Sure() != 0 {
		t.Error("nothing is sure yet")
	}
	j.Sync()
	if d.Sure() != len(d.Bytes()) {
		t.Error("all is sure")
	}
}

func TestErrors(t *testing.T) {
	d := device.New(75)
	j := journal.Open(key, d)
	for _, c := range []struct {
		x api.Entry
		e api.Errno
	}{{api.Entry{}, api.ErrKind}, {api.Entry{Kind: 4, Body: make([]byte, 2000)}, api.ErrKind}, {api.Entry{Kind: 1, Body: make([]byte, 1025)}, api.ErrLong}, {api.Entry{Kind: 1, Body: make([]byte, 1024)}, api.ErrFull}, {note(make([]byte, 39)...), api.ErrFull}} {
		if e := j.Append(c.x); e != c.e {
			t.Errorf("%d, not %d", e, c.e)
		}
		is(t, j, d)
	}
	j.Append(note(1))
	if e := j.Append(note(2)); e != api.ErrFull {
		t.Error(e)
	}
	is(t, j, d, note(1))
	if e := j.Append(note()); e != api.OK {
		t.Error(e)
	}
	is(t, j, d, note(1), note())
	accept := journal.Open(key, device.New(140))
	if e := accept.Append(api.Entry{Kind: api.EntAccept, Body: make([]byte, 104)}); e != api.ErrFull {
		t.Error("a frame of 141 bytes", e)
	}
	if e := accept.Append(note(1)); e != api.OK || accept.Count() != 1 {
		t.Error("a note has room still", e)
	}
}

// TestWhateverIsThere: a journal's log verifies, whatever was on the device.
func TestWhateverIsThere(t *testing.T) {
	all := []api.Entry{note(1), {Kind: api.EntReject, Body: []byte{2, 2}}, note(3)}
	log, _, _ := chain.Build(key, all)
	ends := []int{0}
	for i := range all {
		l, _, _ := chain.Build(key, all[:i+1])
		ends = append(ends, len(l))
	}
	put := func(b []byte) *device.Device {
		d := device.New(1000)
		d.Append(b)
		return d
	}
	whole := func(n int) int {
		i := 0
		for i+1 < len(ends) && ends[i+1] <= n {
			i++
		}
		return i
	}
	for n := range len(log) + 1 {
		d := put(log[:n])
		is(t, journal.Open(key, d), d, all[:whole(n)]...)
		if n < len(log) {
			b := slices.Clone(log)
			b[n] ^= 4
			d := put(b)
			is(t, journal.Open(key, d), d, all[:whole(n)]...)
		}
	}
	for _, b := range [][]byte{{1}, {0, 0, 0, 0}, {255, 255, 255, 255, 1, 2}, log[ends[1]:], append(slices.Clone(log[:ends[1]]), log[:ends[1]]...)} {
		d := put(b)
		n := 0
		if len(b) > 40 && bytes.Equal(b[:ends[1]], log[:ends[1]]) {
			n = 1
		}
		is(t, journal.Open(key, d), d, all[:n]...)
	}
	d := put(log)
	d.Sync()
	if j := journal.Open([]byte("other"), d); j.Count() != 0 || len(d.Bytes()) != 0 || d.Sure() != 0 {
		t.Error("another key")
	}
}

func TestCrashes(t *testing.T) {
	l := []api.Entry{note(1), note(2, 2), {Kind: api.EntAccept}, note(4)}
	for synced := range len(l) + 1 {
		for keep := -1; keep < 170; keep++ {
			d := device.New(1000)
			j := journal.Open(key, d)
			for i, x := range l {
				if i == synced {
					j.Sync()
				}
				j.Append(x)
			}
			if synced == len(l) {
				j.Sync()
			}
			d.Crash(keep)
			j = journal.Open(key, d)
			if j.Count() < synced {
				t.Fatalf("%d of %d sure entries", j.Count(), synced)
			}
			is(t, j, d, l[:j.Count()]...)
			j.Append(note(9))
			is(t, j, d, append(slices.Clone(l[:j.Count()-1]), note(9))...)
		}
	}
}

// TestOtherHands: what another hand writes behind the log does not matter to it.
func TestOtherHands(t *testing.T) {
	d := device.New(1000)
	j := journal.Open(key, d)
	j.Append(note(1))
	other := journal.Open(key, d)
	other.Append(note(2))
	d.Append([]byte{1, 2, 3})
	for i, x := range []*journal.Journal{j, other} {
		if x.Count() != i+1 || !chain.Verify(key, x.Log(), x.Count(), x.Tag()) || len(x.Entries()) != i+1 {
			t.Errorf("%d: %d entries, %v", i, x.Count(), x.Log())
		}
	}
}

func TestNil(t *testing.T) {
	var j *journal.Journal
	j.Sync()
	if j.Append(note(1)) != api.ErrNone || j.Append(api.Entry{}) != api.ErrNone || j.Count() != 0 || !bytes.Equal(j.Tag(), chain.First()) || len(j.Log()) != 0 || len(j.Entries()) != 0 {
		t.Error("a nil journal")
	}
	o := journal.Open(key, nil)
	o.Sync()
	if o.Count() != 0 || !bytes.Equal(o.Tag(), chain.First()) || len(o.Log()) != 0 || len(o.Entries()) != 0 || o.Append(note(1)) != api.ErrFull || o.Append(api.Entry{}) != api.ErrKind || o.Count() != 0 {
		t.Error("a journal on a nil device")
	}
}
