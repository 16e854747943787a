package code

import (
	"notary/api"
	"notary/varint"
)

// reader goes along bytes; once an error has come it reads nothing more.
type reader struct {
	levels
	bytes []byte
	at    int
	err   api.Errno
}

// begin is a reader at a place.
func begin(b []byte, at int) (*reader, api.Errno) {
	if at < 0 || at > len(b) {
		return nil, api.ErrRange
	}
	return &reader{bytes: b, at: at}, api.OK
}

func (r *reader) fail(e api.Errno) {
	if r.err == api.OK {
		r.err = e
	}
}

// enter goes a level deeper, if that may be.
func (r *reader) enter(level *int) {
	if *level >= api.MaxDepth {
		r.fail(api.ErrDepth)
	}
	*level++
}

// leave goes a level up.
func leave(level *int) {
	*level--
}

// byte is the next byte.
func (r *reader) byte() int {
	if r.err == api.OK && r.at >= len(r.bytes) {
		r.fail(api.ErrShort)
	}
	if r.err != api.OK {
		return 0
	}
	r.at++
	return int(r.bytes[r.at-1])
}

// number is the next number.
func (r *reader) number() uint64 {
	if r.err != api.OK {
		return 0
	}
	v, at, e := varint.Get(r.bytes, r.at)
	if e != api.OK {
		r.fail(e)
		return 0
	}
	r.at = at
	return v
}

// small is the next number, which must not be above the greatest one of a list.
func (r *reader) small() int {
	v := r.number()
	if v > maxNumber {
		r.fail(api.ErrRange)
		return 0
	}
	return int(v)
}

// list is as many things as the next number says, each read by one.
func list[T any](r *reader, one func() T) []T {
	var out []T
	n := r.number()
	for i := uint64(0); i < n && r.err == api.OK; i++ {
		out = append(out, one())
	}
	return out
}

func (r *reader) term() api.Term {
	r.enter(&r.terms)
	defer leave(&r.terms)
	kind := r.byte()
	if !isTerm(kind) {
		r.fail(api.ErrKind)
	}
	n := varint.Zag(r.number())
	return api.Term{K: kind, N: n, L: list(r, r.term)}
}

func (r *reader) step() api.Step {
	rule := r.small()
	back := r.byte()
	if back > 1 {
		r.fail(api.ErrForm)
	}
	path := list(r, r.small)
	nums := list(r, r.small)
	return api.Step{Rule: rule, Back: back == 1, Path: path, Nums: nums, Term: r.term()}
}

func (r *reader) deriv() api.Deriv {
	r.enter(&r.derivs)
	defer leave(&r.derivs)
	out := api.Deriv{K: r.byte()}
	switch out.K {
	case api.DerStep:
		out.Step = r.step()
	case api.DerSeq:
		out.L = list(r, r.deriv)
	case api.DerAt:
		out.Path = list(r, r.small)
		out.L = list(r, r.deriv)
	default:
		r.fail(api.ErrKind)
	}
	return out
}
