package reading_test

import (
	"math"
	"testing"

	"notary/api"
	"notary/reading"
)

var tokens = []api.Token{{K: api.TokWord, S: "let", From: 2, To: 5}, {K: api.TokName, S: "a", From: 6, To: 7}, {K: api.TokSign, S: "=", From: 8, To: 9}, {K: api.TokNum, N: 4, From: 10, To: 11}}

func TestAlong(t *testing.T) {
	r, e := reading.New(tokens, 0)
	if e != api.OK || r.Is("a") || !r.Is("let") || r.Take("=") || !r.Take("let") || r.Place() != 1 {
		t.Error("words and signs", r.Place(), e)
	}
	if x := r.WantKind(api.TokName); x != tokens[1] || r.Place() != 2 {
		t.Error("a name", x)
	}
	r.Want("=")
	r.Skip()
	if r.Place() != 4 || !r.Goes() || r.Err() != api.OK || r.Next() != (api.Token{K: api.TokEnd}) {
		t.Error("behind all tokens", r.Place())
	}
	r.Skip()
	if x := r.Node(1, api.Term{K: api.KNum}); r.Place() != 4 || x.From != 6 || x.To != 11 {
		t.Error("where a term stands", x)
	}
}

// TestQuotes: a word in quotes is a token of the kind TokWord, a sign in quotes one of the kind TokSign.
func TestQuotes(t *testing.T) {
	for s, right := range map[string]int{"int": api.TokWord, "a": api.TokWord, "zz": api.TokWord, "{": api.TokSign, "||": api.TokSign, "@": api.TokSign, "[": api.TokSign, "=": api.TokSign} {
		for _, k := range []int{0, api.TokName, api.TokNum, api.TokWord, api.TokSign, api.TokEnd, 6, -1} {
			r, _ := reading.New([]api.Token{{K: k, S: s}}, 0)
			if is := r.Is(s); is != (k == right) || r.Is(s+s) || r.Is("") {
				t.Errorf("%q of the kind %d: %t", s, k, is)
			}
		}
	}
}

func TestErrors(t *testing.T) {
	for _, at := range []int{-1, 5, math.MinInt, math.MaxInt} {
		if _, e := reading.New(tokens, at); e != api.ErrRange {
			t.Errorf("from %d: %d", at, e)
		}
	}
	for _, fail := range []func(r *reading.Reader){func(r *reading.Reader) { r.Want("=") }, func(r *reading.Reader) { r.WantKind(api.TokNum) }, func(r *reading.Reader) { r.Fail() }} {
		r, _ := reading.New(tokens, 1)
		fail(&r)
		r.Skip()
		r.Want("a")
		x := r.WantKind(api.TokName)
		y := r.Below(func(t []api.Token, at int) (api.Term, int, api.Errno) { return api.Term{K: 1}, 3, api.OK })
		if r.Goes() || r.Err() != api.ErrToken || r.Place() != 1 || r.Is("a") || x.K != 0 || y.K != 0 || r.Node(0, api.Term{K: 1}).K != 0 {
			t.Error("behind an error the reader stays", r.Place(), r.Err())
		}
	}
	r, _ := reading.New(tokens, 1)
	if x := r.Below(func(t []api.Token, at int) (api.Term, int, api.Errno) { return api.Term{K: at}, 3, api.ErrDepth }); x.K != 1 || r.Place() != 3 || r.Err() != api.ErrDepth {
		t.Error("what a lower layer reads", x, r.Place(), r.Err())
	}
}
