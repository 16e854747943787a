package hmac_test

import (
	"bytes"
	stdhmac "crypto/hmac"
	"crypto/sha256"
	"testing"

	"notary/api"
	"notary/hmac"
	"notary/sha"
)

func reference(key, message []byte) []byte {
	h := stdhmac.New(sha256.New, key)
	h.Write(message)
	return h.Sum(nil)
}

func TestTag(t *testing.T) {
	for _, k := range []int{0, 1, 2, 31, 32, 33, 63, 64, 65, 66, 128, 200} {
		for _, m := range []int{0, 1, 31, 55, 56, 64, 65, 300} {
			key, message := bytes.Repeat([]byte{byte(k), 5}, k)[:k], bytes.Repeat([]byte{byte(m), 9}, m)[:m]
			tag := hmac.Tag(key, message)
			if len(tag) != api.TagSize || !bytes.Equal(tag, reference(key, message)) {
				t.Errorf("a key of %d bytes, a message of %d", k, m)
			}
		}
	}
	if !bytes.Equal(hmac.Tag(nil, nil), reference(nil, nil)) {
		t.Error("nothing")
	}
}

func TestNothingIsChanged(t *testing.T) {
	key, message := append(make([]byte, 0, 99), 1, 2), append(make([]byte, 0, 99), 3, 4)
	hmac.Tag(key, message)
	if !bytes.Equal(key[:99], append([]byte{1, 2}, make([]byte, 97)...)) || !bytes.Equal(message[:99], append([]byte{3, 4}, make([]byte, 97)...)) {
		t.Error("what was handed in is changed")
	}
}

func TestKeysThatAreOne(t *testing.T) {
	m := []byte("message")
	tag := hmac.Tag([]byte{1}, m)
	if !bytes.Equal(tag, hmac.Tag([]byte{1, 0}, m)) || bytes.Equal(tag, hmac.Tag([]byte{0, 1}, m)) {
		t.Error("bytes 0 at the end, and ahead")
	}
	full := append([]byte{1}, make([]byte, 63)...)
	if !bytes.Equal(tag, hmac.Tag(full, m)) || bytes.Equal(tag, hmac.Tag(append(full, 0), m)) {
		t.Error("64 bytes, and 65")
	}
	long := bytes.Repeat([]byte{7}, 65)
	if !bytes.Equal(hmac.Tag(long, m), hmac.Tag(sha.Sum(long), m)) {
		t.Error("a long key and its digest")
	}
	if bytes.Equal(hmac.Tag(long[:64], m), hmac.Tag(sha.Sum(long[:64]), m)) {
		t.Error("a key of 64 bytes stands for itself")
	}
}

func TestSame(t *testing.T) {
	for _, c := range []struct {
		a, b []byte
		same bool
	}{
		{nil, nil, true}, {nil, []byte{}, true}, {nil, []byte{0}, false}, {[]byte{0}, nil, false},
		{[]byte{1, 2}, []byte{1, 2}, true}, {[]byte{1, 2}, []byte{1, 3}, false}, {[]byte{1, 2}, []byte{2, 1}, false},
		{[]byte{1, 2}, []byte{0, 2}, false}, {[]byte{1, 2}, []byte{1, 2, 0}, false}, {[]byte{1, 2, 3}, []byte{1, 2}, false},
		{[]byte{255, 1}, []byte{127, 1}, false}, {[]byte{1, 1}, []byte{2, 2}, false},
	} {
		if hmac.Same(c.a, c.b) != c.same {
			t.Errorf("Same(%v, %v)", c.a, c.b)
		}
	}
}
