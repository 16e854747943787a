// Package reading is what the layers have in common that read tokens (7 to 9): a reader that goes along them.
package reading

import (
	"notary/api"
)

// Reader goes along tokens; once an error has come it stays at its place.
type Reader struct {
	tokens []api.Token
	at     int
	err    api.Errno
}

// New is a reader at a place among tokens; an error, if there is no such place.
func New(tokens []api.Token, at int) (Reader, api.Errno) {
	if at < 0 || at > len(tokens) {
		return Reader{}, api.ErrRange
	}
	return Reader{tokens: tokens, at: at}, api.OK
}

// Place is the place of the next token.
func (r *Reader) Place() int {
	return r.at
}

// Err is the error that has come, or none.
func (r *Reader) Err() api.Errno {
	return r.err
}

// Goes asks whether no error has come yet.
func (r *Reader) Goes() bool {
	return r.err == api.OK
}

// Next is the token at the reader's place; behind all tokens stand ends, as many as are asked for.
func (r *Reader) Next() api.Token {
	if r.at < len(r.tokens) {
		return r.tokens[r.at]
	}
	return api.Token{K: api.TokEnd}
}

// Skip moves on behind the next token.
func (r *Reader) Skip() {
	if r.Goes() && r.at < len(r.tokens) {
		r.at++
	}
}

// Is asks whether the next token is that word or sign.
func (r *Reader) Is(s string) bool {
	t := r.Next()
	return r.Goes() && t.K == quoted(s) && t.S == s
}

// quoted is the kind of the tokens that a grammar means by s in quotes: its words begin with a letter, its signs with none.
func quoted(s string) int {
	if s != "" && 'a' <= s[0] && s[0] <= 'z' {
		return api.TokWord
	}
	return api.TokSign
}

// Take moves on behind a word or sign, if that is the next token.
func (r *Reader) Take(s string) bool {
	if !r.Is(s) {
		return false
	}
	r.Skip()
	return true
}

// Want moves on behind a word or sign, which must come.
func (r *Reader) Want(s string) {
	if !r.Take(s) {
		r.Fail()
	}
}

// WantKind moves on behind a token of a kind, which must come, and tells it.
func (r *Reader) WantKind(kind int) api.Token {
	t := r.Next()
	if !r.Goes() || t.K != kind {
		r.Fail()
		return api.Token{}
	}
	r.Skip()
	return t
}

// Fail says that the next token may not stand there.
func (r *Reader) Fail() {
	if r.Goes() {
		r.err = api.ErrToken
	}
}

// Node is a term that goes from the token at the place first to the last one that was read.
func (r *Reader) Node(first int, t api.Term) api.Term {
	if !r.Goes() {
		return api.Term{}
	}
	t.From = r.tokens[first].From
	t.To = r.tokens[r.at-1].To
	return t
}

// Below reads what the call of a lower layer reads.
func (r *Reader) Below(read func(t []api.Token, at int) (api.Term, int, api.Errno)) api.Term {
	if !r.Goes() {
		return api.Term{}
	}
	var out api.Term
	out, r.at, r.err = read(r.tokens, r.at)
	return out
}
