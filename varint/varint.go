// Package varint is layer 1: numbers as bytes, each in just one way.
package varint

import (
	"notary/api"
)

// maxGroups is how many groups of seven bits a number of 64 bits has at most.
const maxGroups = 10

// Bytes is the bytes of v.
func Bytes(v uint64) []byte {
	var out []byte
	for v >= 128 {
		out = append(out, byte(v%128)+128)
		v /= 128
	}
	return append(out, byte(v))
}

// Get is the number whose bytes begin at the place at, and the place behind them.
func Get(b []byte, at int) (uint64, int, api.Errno) {
	if at < 0 || at > len(b) {
		return 0, 0, api.ErrRange
	}
	var v uint64
	for i := range maxGroups {
		if at+i >= len(b) {
			return 0, 0, api.ErrShort
		}
		c := b[at+i]
		if i == maxGroups-1 && c != 1 || i > 0 && c == 0 {
			return 0, 0, api.ErrForm
		}
		v += uint64(c%128) << (7 * i)
		if c < 128 {
			return v, at + i + 1, api.OK
		}
	}
	return 0, 0, api.ErrForm
}

// Zig is how a number with a sign stands.
func Zig(n int64) uint64 {
	if n < 0 {
		return 2*uint64(-(n+1)) + 1
	}
	return 2 * uint64(n)
}

// Zag is the number with a sign that stands as v.
func Zag(v uint64) int64 {
	half := int64(v / 2)
	if v%2 == 1 {
		return -half - 1
	}
	return half
}
