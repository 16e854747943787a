package drafting_test

import (
	"slices"
	"testing"

	"notary/api"
	"notary/drafting"
	"notary/right"
	"notary/term"
)

const text = "rec R { x: int; } fn f(a: [2]R, b: bool): int { { let c =  a[0].x ; print c; } return 1; }"

func TestDrafter(t *testing.T) {
	d, e := drafting.Read(text, api.Request{From: 57, To: 66})
	path, ok := d.Selected()
	if e != api.OK || !ok || !slices.Equal(path, []int{1, 2, 0, 0, 0}) {
		t.Error("the selection", path, e)
	}
	named, settled := d.At(path)
	if d.Bytes(named) != "a[0].x" || settled.K != api.KField || settled.S != "" {
		t.Error("both modules", named, settled)
	}
	if block, i, let, ok := d.Around(api.KLet); !ok || !slices.Equal(block, []int{1, 2, 0}) || i != 0 || let.S != "c" {
		t.Error("around", block, i, let)
	}
	if _, _, _, ok := d.Around(api.KFor); ok {
		t.Error("around a loop")
	}
	for i, want := range []string{"[2]R", "bool"} {
		if s := d.TypeText(d.Settled.L[1].L[0].L[i].L[0]); s != want {
			t.Error(s)
		}
	}
	if s := d.TypeText(api.Term{K: api.KInt}); s != "int" {
		t.Error(s)
	}
	if _, e := drafting.Read("&", api.Request{}); e != api.ErrChar {
		t.Error("what is no module", e)
	}
}

func TestInsert(t *testing.T) {
	for place, want := range []string{"const n = 1; var g: int; fn f(): int { return g; }", "var g: int; const n = 1; fn f(): int { return g; }"} {
		_, m, _, _ := right.Read("var g: int; fn f(): int { return g; }")
		_, n, _, _ := right.Read(want)
		out := drafting.Insert(m, place, api.Term{K: api.KDefine, L: []api.Term{{K: api.KNum, N: 1}}})
		if !term.Same(out, n) || len(m.L) != 2 {
			t.Errorf("at %d: %v", place, out)
		}
	}
}

func TestAnswer(t *testing.T) {
	edits := []api.Edit{{From: 1, To: 2, Text: "x"}}
	l, d, e := drafting.Draft{Edits: edits, Steps: []api.Step{{Rule: 3}, {Rule: 4, Back: true}}}.Answer()
	if e != api.OK || !slices.Equal(l, edits) || d.K != api.DerSeq || len(d.L) != 2 || d.L[0].K != api.DerStep || d.L[1].Step.Rule != 4 || !d.L[1].Step.Back {
		t.Error(l, d, e)
	}
	if l, d, e := drafting.Fails(api.ErrSide).Answer(); e != api.ErrSide || len(l) != 0 || d.K != 0 {
		t.Error(l, d, e)
	}
}
