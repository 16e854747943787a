package rename_test

import (
	"math"
	"reflect"
	"slices"
	"strings"
	"testing"

	"notary/api"
	"notary/bind"
	"notary/patch"
	"notary/rename"
	"notary/right"
	"notary/term"
)

var texts = []string{
	"var a: int; fn f(): int { return a; }",
	"rec R { a: int; b: [2]S; } rec S { a: bool; } const c = 1; pub fn f(a: R, n: int): S { let c = c + a.a; for i = c to n { let n = i; print n; } a.b[c].a = true; return a.b[n]; }",
	"fn f(a: int): int { let a = a; { let a: int; a = 1; } return f(a); }",
}

func TestExample(t *testing.T) {
	for _, from := range []int{4, 33} {
		l, d, e := rename.Draft(texts[0], api.Request{Kind: api.ReqRename, From: from, To: from + 1, Name: "b"})
		if e != api.OK || !slices.Equal(l, []api.Edit{{From: 4, To: 5, Text: "b"}, {From: 33, To: 34, Text: "b"}}) || !reflect.DeepEqual(d, api.Deriv{K: api.DerSeq}) {
			t.Error(l, d, e)
		}
	}
}

// TestDraft: whatever use is selected, all uses of its binder are named anew, and nothing else.
func TestDraft(t *testing.T) {
	for _, text := range texts {
		uses, _ := bind.Uses(text)
		names := bind.Names(text)
		_, before, _, _ := right.Read(text)
		for _, u := range uses {
			for from := u.From; from >= 0 && (from == u.From || text[from] == ' '); from-- {
				l, d, e := rename.Draft(text, api.Request{Kind: api.ReqRename, From: from, To: u.To, Name: "fresh", Nums: []int{1}})
				var want []api.Edit
				for _, v := range uses {
					if v.Binder == u.Binder {
						want = append(want, api.Edit{From: v.From, To: v.To, Text: "fresh"})
					}
				}
				if e != api.OK || !slices.Equal(l, want) || !reflect.DeepEqual(d, api.Deriv{K: api.DerSeq}) {
					t.Fatalf("%q: %v: %v %v %d", text, u, l, d, e)
				}
				out, _ := patch.Apply(text, l)
				_, after, at, e := right.Read(out)
				if e != api.OK || !term.Same(before, after) {
					t.Errorf("%q: %d %d", out, at, e)
				}
				now, _ := bind.Uses(out)
				fresh := bind.Names(out)
				for i := range uses {
					if now[i].Binder != uses[i].Binder {
						t.Errorf("%q: the use %d", out, i)
					}
				}
				for i := range names {
					if i == u.Binder && fresh[i] != "fresh" || i != u.Binder && fresh[i] != names[i] {
						t.Errorf("%q: %v", out, fresh)
					}
				}
			}
		}
	}
}

func TestErrors(t *testing.T) {
	text := texts[0]
	for i, c := range []struct {
		text string
		req  api.Request
		e    api.Errno
	}{
		{"&", api.Request{}, api.ErrKind}, {"&", api.Request{Kind: -1}, api.ErrKind}, {"&", api.Request{Kind: api.ReqExtractVar}, api.ErrKind}, {"&", api.Request{Kind: 13}, api.ErrKind}, {"&", api.Request{Kind: api.ReqRename}, api.ErrChar}, {"fn f(): int { return x; }", api.Request{Kind: api.ReqRename}, api.ErrName}, {"fn f(): int { return true; }", api.Request{Kind: api.ReqRename}, api.ErrType},
		{text, api.Request{Kind: api.ReqRename, From: 4, To: 5}, api.ErrName}, {text, api.Request{Kind: api.ReqRename, From: 0, To: 1, Name: "if"}, api.ErrName}, {text, api.Request{Kind: api.ReqRename, From: 4, To: 5, Name: strings.Repeat("a", 17)}, api.ErrName}, {text, api.Request{Kind: api.ReqRename, From: 4, To: 5, Name: "1a"}, api.ErrName},
		{text, api.Request{Kind: api.ReqRename, From: 0, To: 3, Name: "b"}, api.ErrSelect}, {text, api.Request{Kind: api.ReqRename, From: 4, To: 4, Name: "b"}, api.ErrSelect}, {text, api.Request{Kind: api.ReqRename, From: 4, To: 6, Name: "b"}, api.ErrSelect}, {text, api.Request{Kind: api.ReqRename, From: 5, To: 4, Name: "b"}, api.ErrSelect}, {text, api.Request{Kind: api.ReqRename, From: -1, To: 5, Name: "b"}, api.ErrSelect}, {text, api.Request{Kind: api.ReqRename, From: math.MinInt, To: math.MaxInt, Name: "b"}, api.ErrSelect}, {text, api.Request{Kind: api.ReqRename, From: 3, To: 5, Name: "b"}, api.OK}, {text, api.Request{Kind: api.ReqRename, From: 32, To: 34, Name: "b"}, api.OK}, {text, api.Request{Kind: api.ReqRename, From: 4, To: 5, Name: "a"}, api.OK}, {"", api.Request{Kind: api.ReqRename, Name: "b"}, api.ErrSelect},
	} {
		l, d, e := rename.Draft(c.text, c.req)
		if e != c.e || e != api.OK && (len(l) != 0 || !reflect.DeepEqual(d, api.Deriv{})) {
			t.Errorf("%d: %d, not %d", i, e, c.e)
		}
	}
}
