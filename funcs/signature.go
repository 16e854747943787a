package funcs

import (
	"slices"
	"strings"

	"notary/api"
	"notary/drafting"
	"notary/params"
	"notary/pick"
	"notary/term"
)

func (d *drafter) signature() drafting.Draft {
	path, ok := pick.Around(d.Named, d.Req.From, api.KFn)
	if !ok {
		return drafting.Fails(api.ErrSelect)
	}
	f := path[0]
	n := len(d.Named.L[f].L[0].L)
	nums := d.Req.Nums
	switch {
	case n == 0:
		return drafting.Fails(api.ErrSelect)
	case len(nums) == n:
		return d.permuted(f)
	case len(nums) == n-1 && rises(nums, n):
		return d.dropped(f, n)
	}
	return drafting.Fails(api.ErrRange)
}

// rises asks whether numbers rise, each from 0 to below n.
func rises(nums []int, n int) bool {
	last := -1
	for _, x := range nums {
		if x <= last || x >= n {
			return false
		}
		last = x
	}
	return true
}

// calls is all calls of a function, in the named module.
func (d *drafter) calls(f int) []api.Term {
	var out []api.Term
	for _, path := range term.Paths(d.Settled) {
		if named, x := d.At(path); x.K == api.KCall && x.N == int64(f) {
			out = append(out, named)
		}
	}
	return out
}

// token is the number of the token that begins at a place.
func (d *drafter) token(place int) int {
	return slices.IndexFunc(d.tokens, func(t api.Token) bool { return t.From == place })
}

// joined is the texts of parts in an order, with a comma and a blank between.
func (d *drafter) joined(parts []api.Term, order []int) string {
	var l []string
	for _, i := range order {
		l = append(l, d.Bytes(parts[i]))
	}
	return strings.Join(l, ", ")
}

func (d *drafter) permuted(f int) drafting.Draft {
	order := d.Req.Nums
	nums := append([]int{f}, order...)
	r, ok := params.Perm(d.Settled, nums)
	if !ok {
		return drafting.Fails(api.ErrSide)
	}
	list := d.Named.L[f].L[0].L
	edits := []api.Edit{{From: list[0].From, To: list[len(list)-1].To, Text: d.joined(list, order)}}
	for _, c := range d.calls(f) {
		open := d.tokens[d.token(c.From)+1]
		edits = append(edits, api.Edit{From: open.To, To: c.To - len(")"), Text: d.joined(c.L, order)})
	}
	return drafting.Draft{Edits: edits, Steps: []api.Step{{Rule: api.PermParams, Nums: nums, Term: r}}}
}

func (d *drafter) dropped(f, n int) drafting.Draft {
	i := 0
	for slices.Contains(d.Req.Nums, i) {
		i++
	}
	nums := []int{f, i}
	r, _, ok := params.Drop(d.Settled, nums)
	if !ok {
		return drafting.Fails(api.ErrSide)
	}
	edits := []api.Edit{d.without(d.token(d.Named.L[f].L[0].From), i, n)}
	for _, c := range d.calls(f) {
		edits = append(edits, d.without(d.token(c.From)+1, i, n))
	}
	return drafting.Draft{Edits: edits, Steps: []api.Step{{Rule: api.DropParam, Nums: nums, Term: r}}}
}

// without is the edit that takes the thing i of n out of the list that an opening bracket begins.
func (d *drafter) without(open, i, n int) api.Edit {
	marks := d.marks(open)
	switch {
	case i < n-1:
		return api.Edit{From: marks[i].To, To: marks[i+1].To}
	case i > 0:
		return api.Edit{From: marks[i].From, To: marks[n].From}
	}
	return api.Edit{From: marks[0].To, To: marks[n].From}
}

// marks is an opening bracket, the commas of its list, and its closing bracket.
func (d *drafter) marks(open int) []api.Token {
	out := []api.Token{d.tokens[open]}
	depth := 0
	for _, t := range d.tokens[open+1:] {
		switch {
		case t.K != api.TokSign:
		case depth == 0 && t.S == ",":
			out = append(out, t)
		case depth == 0 && t.S == ")":
			return append(out, t)
		case t.S == "(" || t.S == "[":
			depth++
		case t.S == ")" || t.S == "]":
			depth--
		}
	}
	return out
}
