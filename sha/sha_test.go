package sha_test

import (
	"bytes"
	"crypto/sha256"
	"encoding/binary"
	"math"
	"slices"
	"testing"

	"notary/sha"
)

func pattern(n int) []byte {
	b := make([]byte, n)
	for i := range b {
		b[i] = byte(i*i + 7*i + 3)
	}
	return b
}

func TestStart(t *testing.T) {
	want := []uint32{0x6a09e667, 0xbb67ae85, 0x3c6ef372, 0xa54ff53a, 0x510e527f, 0x9b05688c, 0x1f83d9ab, 0x5be0cd19}
	if s := sha.Start(); !slices.Equal(s, want) {
		t.Errorf("%x", s)
	}
}

func TestBlock(t *testing.T) {
	b := pattern(64)
	s := sha.Start()
	kept := slices.Clone(s)
	one := sha.Block(s, b)
	if len(one) != 8 || !slices.Equal(s, kept) || !bytes.Equal(b, pattern(64)) {
		t.Fatal("what was handed in is changed")
	}
	for n := range 130 {
		if n != 64 && len(sha.Block(s, pattern(n))) != 0 {
			t.Errorf("a block of %d bytes", n)
		}
	}
	for n := range 20 {
		if n != 8 && len(sha.Block(make([]uint32, n), b)) != 0 {
			t.Errorf("a state of %d numbers", n)
		}
	}
	if len(sha.Block(nil, nil)) != 0 {
		t.Error("nothing at all")
	}
}

// TestBlockByBlock: a digest is the state behind the blocks of the bytes and their tail.
func TestBlockByBlock(t *testing.T) {
	for n := range 300 {
		b := pattern(n)
		whole := append(pattern(n), sha.Tail(n)...)
		if len(whole)%64 != 0 {
			t.Fatalf("%d bytes and their tail are %d", n, len(whole))
		}
		s := sha.Start()
		for at := 0; at < len(whole); at += 64 {
			s = sha.Block(s, whole[at:at+64])
		}
		var d []byte
		for _, x := range s {
			d = binary.BigEndian.AppendUint32(d, x)
		}
		if want := sha256.Sum256(b); !bytes.Equal(sha.Sum(b), want[:]) || !bytes.Equal(d, want[:]) {
			t.Errorf("the digest of %d bytes", n)
		}
	}
}

func TestTail(t *testing.T) {
	for _, c := range []struct{ n, size int }{{0, 64}, {1, 63}, {55, 9}, {56, 72}, {63, 65}, {64, 64}, {119, 9}, {120, 72}} {
		if x := sha.Tail(c.n); len(x) != c.size {
			t.Errorf("Tail(%d) has %d bytes", c.n, len(x))
		}
	}
	for _, n := range []int{-1, -64, math.MinInt} {
		if len(sha.Tail(n)) != 0 {
			t.Errorf("Tail(%d)", n)
		}
	}
	for _, n := range []int{0, 3, 55, 56, 1000, 1 << 40, 1 << 61, math.MaxInt} {
		x := sha.Tail(n)
		if x[0] != 128 || len(x) > 72 || (uint64(n)+uint64(len(x)))%64 != 0 {
			t.Fatalf("Tail(%d): %v", n, x)
		}
		if bytes.Count(x[1:len(x)-8], []byte{0}) != len(x)-9 || binary.BigEndian.Uint64(x[len(x)-8:]) != 8*uint64(n) {
			t.Errorf("Tail(%d): %v", n, x)
		}
	}
}

func TestSum(t *testing.T) {
	if d := sha.Sum([]byte("abc")); len(d) != 32 || !bytes.Equal(d[:4], []byte{186, 120, 22, 191}) {
		t.Error(d)
	}
	if want := sha256.Sum256(nil); !bytes.Equal(sha.Sum(nil), want[:]) {
		t.Error("the digest of nothing")
	}
	big := pattern(100000)
	if want := sha256.Sum256(big); !bytes.Equal(sha.Sum(big), want[:]) {
		t.Error("the digest of many bytes")
	}
	room := append(make([]byte, 0, 64), 1, 2, 3)
	sha.Sum(room)
	if !bytes.Equal(room[:64], append([]byte{1, 2, 3}, make([]byte, 61)...)) {
		t.Error("the room behind the end was written")
	}
}
