// Package drafting is what the layers have in common that draft changes (42 to 44): a request, what is known of its text, and how a draft is answered.
package drafting

import (
	"slices"

	"notary/api"
	"notary/decls"
	"notary/lex"
	"notary/pick"
	"notary/right"
	"notary/term"
)

// Drafter is a request, and what is known of its text.
type Drafter struct {
	Text    string
	Req     api.Request
	Named   api.Term
	Settled api.Term
}

// Read is the drafter of a request of a text.
func Read(text string, req api.Request) (Drafter, api.Errno) {
	named, settled, _, e := right.Read(text)
	return Drafter{Text: text, Req: req, Named: named, Settled: settled}, e
}

// Bytes is the text of a named term.
func (d *Drafter) Bytes(t api.Term) string {
	return d.Text[t.From:t.To]
}

// At is what a path leads to, in both modules.
func (d *Drafter) At(path []int) (api.Term, api.Term) {
	named, _ := term.At(d.Named, path)
	settled, _ := term.At(d.Settled, path)
	return named, settled
}

// Selected is the path of the value at the selection.
func (d *Drafter) Selected() ([]int, bool) {
	from, to := pick.Trim(d.Text, d.Req.From, d.Req.To)
	return pick.Value(d.Named, from, to)
}

// Around is the path of the block around a statement of a kind that the request is in, which part of it that is, and the statement.
func (d *Drafter) Around(kind int) ([]int, int, api.Term, bool) {
	path, ok := pick.Around(d.Named, d.Req.From, kind)
	if !ok {
		return nil, 0, api.Term{}, false
	}
	around, i, ok := pick.Block(d.Named, path)
	named, _ := d.At(path)
	return around, i, named, ok
}

// TypeText is the text of a type.
func (d *Drafter) TypeText(t api.Term) string {
	switch t.K {
	case api.KBool:
		return "bool"
	case api.KArr:
		return "[" + lex.Digits(t.N) + "]" + d.TypeText(t.L[0])
	case api.KRec:
		return d.Named.L[t.N].S
	}
	return "int"
}

// Insert is a module with a declaration more at a place, which names others by their old places; all are renumbered.
func Insert(m api.Term, i int, decl api.Term) api.Term {
	last := len(m.L)
	m.L = append(slices.Clone(m.L), decl)
	var nums []int
	for j := range last {
		if j == i {
			nums = append(nums, last)
		}
		nums = append(nums, j)
	}
	out, _ := decls.Perm(m, nums)
	return out
}

// Draft is edits and the steps of a derivation, or an error.
type Draft struct {
	Edits []api.Edit
	Steps []api.Step
	Err   api.Errno
}

// Fails is no draft, but an error.
func Fails(e api.Errno) Draft {
	return Draft{Err: e}
}

// Answer is a draft as the layers answer it: the steps are one behind the other.
func (x Draft) Answer() ([]api.Edit, api.Deriv, api.Errno) {
	if x.Err != api.OK {
		return nil, api.Deriv{}, x.Err
	}
	d := api.Deriv{K: api.DerSeq}
	for _, s := range x.Steps {
		d.L = append(d.L, api.Deriv{K: api.DerStep, Step: s})
	}
	return x.Edits, d, api.OK
}
