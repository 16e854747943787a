package device_test

import (
	"bytes"
	"math"
	"testing"

	"notary/api"
	"notary/device"
)

func has(t *testing.T, d *device.Device, sure int, b ...byte) {
	t.Helper()
	if !bytes.Equal(d.Bytes(), b) || d.Sure() != sure {
		t.Errorf("%v, %d of them sure; not %v, %d", d.Bytes(), d.Sure(), b, sure)
	}
}

func TestExample(t *testing.T) {
	d := device.New(4)
	d.Append([]byte{1, 2})
	d.Sync()
	d.Append([]byte{3})
	has(t, d, 2, 1, 2, 3)
	d.Crash(0)
	has(t, d, 2, 1, 2)
	if e := device.New(2).Append([]byte{1, 2, 3}); e != api.ErrFull {
		t.Error(e)
	}
}

func TestRoom(t *testing.T) {
	for _, c := range []struct{ room, fits int }{{0, 0}, {-1, 0}, {math.MinInt, 0}, {1, 1}, {140, 140}, {65535, 65535}, {65536, 65536}, {65537, 65536}, {math.MaxInt, 65536}} {
		d := device.New(c.room)
		has(t, d, 0)
		if e := d.Append(make([]byte, c.fits+1)); e != api.ErrFull || len(d.Bytes()) != 0 {
			t.Errorf("room %d: one byte more is written: %d", c.room, e)
		}
		if e := d.Append(make([]byte, c.fits)); e != api.OK || len(d.Bytes()) != c.fits {
			t.Errorf("room %d: %d", c.room, e)
		}
		if d.Append([]byte{1}) != api.ErrFull || d.Append(nil) != api.OK || len(d.Bytes()) != c.fits {
			t.Errorf("room %d: full", c.room)
		}
	}
	d := device.New(5)
	d.Append([]byte{1, 2, 3})
	if e := d.Append([]byte{4, 5, 6}); e != api.ErrFull {
		t.Error(e)
	}
	has(t, d, 0, 1, 2, 3)
	if e := d.Append([]byte{4, 5}); e != api.OK {
		t.Error(e)
	}
	d.Cut(3)
	if e := d.Append([]byte{6, 7}); e != api.OK {
		t.Error("a cut makes room", e)
	}
	has(t, d, 0, 1, 2, 3, 6, 7)
}

func TestMemory(t *testing.T) {
	d := device.New(9)
	b := []byte{1, 2}
	d.Append(b)
	b[0] = 9
	d.Bytes()[1] = 9
	has(t, d, 0, 1, 2)
	old := d.Bytes()
	d.Cut(0)
	d.Append([]byte{7, 7})
	if old[0] != 1 {
		t.Error("what was told changes")
	}
}

func TestCrash(t *testing.T) {
	for _, c := range []struct{ keep, left int }{{0, 2}, {1, 3}, {2, 4}, {3, 5}, {4, 5}, {-1, 2}, {math.MinInt, 2}, {math.MaxInt, 5}} {
		d := device.New(10)
		d.Append([]byte{1, 2})
		d.Sync()
		d.Append([]byte{3, 4})
		d.Append([]byte{5})
		d.Crash(c.keep)
		has(t, d, c.left, []byte{1, 2, 3, 4, 5}[:c.left]...)
		d.Append([]byte{9})
		d.Crash(0)
		has(t, d, c.left, []byte{1, 2, 3, 4, 5}[:c.left]...)
	}
}

func TestCut(t *testing.T) {
	for _, c := range []struct{ n, left, sure int }{{0, 0, 0}, {1, 1, 1}, {2, 2, 2}, {3, 3, 2}, {5, 5, 2}, {6, 5, 2}, {-1, 0, 0}, {math.MinInt, 0, 0}, {math.MaxInt, 5, 2}} {
		d := device.New(10)
		d.Append([]byte{1, 2})
		d.Sync()
		d.Append([]byte{3, 4, 5})
		d.Cut(c.n)
		has(t, d, c.sure, []byte{1, 2, 3, 4, 5}[:c.left]...)
		d.Sync()
		has(t, d, c.left, []byte{1, 2, 3, 4, 5}[:c.left]...)
	}
}

func TestNil(t *testing.T) {
	var d *device.Device
	d.Sync()
	d.Crash(3)
	d.Cut(1)
	has(t, d, 0)
	if d.Append([]byte{1}) != api.ErrFull || d.Append(nil) != api.OK {
		t.Error("a nil device has no room")
	}
}
