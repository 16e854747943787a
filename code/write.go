package code

import (
	"notary/api"
	"notary/term"
	"notary/varint"
)

// writer gathers bytes; once an error has come it writes nothing more.
type writer struct {
	levels
	bytes []byte
	err   api.Errno
}

// done is what was written, or the error.
func (w *writer) done() ([]byte, api.Errno) {
	if w.err != api.OK {
		return nil, w.err
	}
	return w.bytes, api.OK
}

func (w *writer) fail(e api.Errno) {
	if w.err == api.OK {
		w.err = e
	}
}

// enter goes a level deeper; false, if nothing more may be written.
func (w *writer) enter(level *int) bool {
	if *level >= api.MaxDepth {
		w.fail(api.ErrDepth)
	}
	*level++
	return w.err == api.OK
}

// kind writes a kind, if there is such a one.
func (w *writer) kind(kind int, there bool) {
	if !there {
		w.fail(api.ErrKind)
		return
	}
	w.byte(byte(kind))
}

func (w *writer) byte(b byte) {
	w.bytes = append(w.bytes, b)
}

func (w *writer) number(v uint64) {
	w.bytes = append(w.bytes, varint.Bytes(v)...)
}

// small writes a number that may be in a list.
func (w *writer) small(n int) {
	if n < 0 || n > maxNumber {
		w.fail(api.ErrRange)
		return
	}
	w.number(uint64(n))
}

// all writes how many things there are, and each by one, as long as there is no error.
func all[T any](w *writer, l []T, one func(x T)) {
	w.number(uint64(len(l)))
	for _, x := range l {
		if w.err == api.OK {
			one(x)
		}
	}
}

func (w *writer) term(t api.Term) {
	defer leave(&w.terms)
	if !w.enter(&w.terms) {
		return
	}
	w.kind(t.K, isTerm(t.K))
	if t.S != "" || t.From != 0 || t.To != 0 {
		w.fail(api.ErrForm)
	}
	w.number(varint.Zig(t.N))
	all(w, t.L, w.term)
}

func (w *writer) step(s api.Step) {
	w.small(s.Rule)
	back := byte(0)
	if s.Back {
		back = 1
	}
	w.byte(back)
	all(w, s.Path, w.small)
	all(w, s.Nums, w.small)
	if w.err == api.OK {
		w.term(s.Term)
	}
}

func (w *writer) deriv(d api.Deriv) {
	defer leave(&w.derivs)
	if !w.enter(&w.derivs) {
		return
	}
	w.kind(d.K, isDeriv(d.K))
	if !shaped(d) {
		w.fail(api.ErrForm)
	}
	if w.err != api.OK {
		return
	}
	switch d.K {
	case api.DerStep:
		w.step(d.Step)
	case api.DerSeq:
		all(w, d.L, w.deriv)
	case api.DerAt:
		all(w, d.Path, w.small)
		all(w, d.L, w.deriv)
	}
}

// shaped asks whether a derivation has nothing that its kind has not.
func shaped(d api.Deriv) bool {
	switch d.K {
	case api.DerStep:
		return len(d.Path) == 0 && len(d.L) == 0
	case api.DerSeq:
		return len(d.Path) == 0 && isZero(d.Step)
	}
	return isZero(d.Step)
}

// isZero asks whether a step is the zero one.
func isZero(s api.Step) bool {
	return s.Rule == 0 && !s.Back && len(s.Path) == 0 && len(s.Nums) == 0 && term.Same(s.Term, api.Term{}) && s.Term.From == 0 && s.Term.To == 0
}
