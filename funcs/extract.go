package funcs

import (
	"slices"
	"strings"

	"notary/api"
	"notary/calls"
	"notary/drafting"
	"notary/right"
	"notary/term"
	"notary/typer"
)

// localsOf is the numbers of the locals in an expression, each once, the greatest first.
func localsOf(t api.Term) []int64 {
	var out []int64
	for _, path := range term.Paths(t) {
		if x, _ := term.At(t, path); x.K == api.KLocal && !slices.Contains(out, x.N) {
			out = append(out, x.N)
		}
	}
	slices.Sort(out)
	slices.Reverse(out)
	return out
}

// nameOf is how the uses of a local in an expression are spelt.
func nameOf(named, settled api.Term, local int64) string {
	for _, path := range term.Paths(settled) {
		if x, _ := term.At(settled, path); x.K == api.KLocal && x.N == local {
			use, _ := term.At(named, path)
			return use.S
		}
	}
	return ""
}

// asParameters is an expression in which each local is the parameter that stands for it.
func asParameters(t api.Term, locals []int64) api.Term {
	if t.K == api.KLocal {
		t.N = int64(len(locals) - 1 - slices.Index(locals, t.N))
	}
	l := t.L
	t.L = nil
	for _, part := range l {
		t.L = append(t.L, asParameters(part, locals))
	}
	return t
}

// made is the function that an expression becomes: the types of its parameters, and its result's, are told.
func made(e api.Term, locals []int64, types []api.Term, result api.Term) api.Term {
	list := api.Term{K: api.KParams}
	for _, t := range types {
		list.L = append(list.L, api.Term{K: api.KPart, L: []api.Term{t}})
	}
	says := api.Term{K: api.KReturn, L: []api.Term{asParameters(e, locals)}}
	return api.Term{K: api.KFn, L: []api.Term{list, result, {K: api.KBlock, L: []api.Term{says}}}}
}

func (d *drafter) extract() drafting.Draft {
	path, ok := d.Selected()
	if !ok {
		return drafting.Fails(api.ErrSelect)
	}
	named, e := d.At(path)
	known, _ := right.Locals(d.Settled, path)
	result, _, _, _ := typer.Of(d.Settled, known, e)
	locals := localsOf(e)
	var types, args []api.Term
	var names, list []string
	for _, n := range locals {
		kind := known[len(known)-1-int(n)]
		name := nameOf(named, e, n)
		types = append(types, kind)
		args = append(args, api.Term{K: api.KLocal, N: n})
		names = append(names, name)
		list = append(list, name+": "+d.TypeText(kind))
	}
	i := path[0]
	moved := slices.Clone(path)
	moved[0]++
	head := "fn " + d.Req.Name + "(" + strings.Join(list, ", ") + "): " + d.TypeText(result)
	place := d.Named.L[i].From
	return drafting.Draft{
		Edits: []api.Edit{
			{From: place, To: place, Text: head + " { return " + d.Bytes(named) + "; }\n"},
			{From: named.From, To: named.To, Text: d.Req.Name + "(" + strings.Join(names, ", ") + ")"},
		},
		Steps: []api.Step{
			{Rule: api.DropDecl, Back: true, Nums: []int{i}, Term: drafting.Insert(d.Settled, i, made(e, locals, types, result))},
			{Rule: api.CallUnfold, Back: true, Path: moved, Term: api.Term{K: api.KCall, N: int64(i), L: args}},
		},
	}
}

func (d *drafter) inline() drafting.Draft {
	path, ok := d.Selected()
	named, call := d.At(path)
	if !ok || call.K != api.KCall {
		return drafting.Fails(api.ErrSelect)
	}
	r, ok := calls.Unfold(d.Settled, call)
	if !ok || int64(path[0]) == call.N {
		return drafting.Fails(api.ErrSide)
	}
	return drafting.Draft{
		Edits: []api.Edit{{From: named.From, To: named.To, Text: "(" + d.unfolded(named, int(call.N)) + ")"}},
		Steps: []api.Step{{Rule: api.CallUnfold, Path: path, Term: r}},
	}
}

// unfolded is the text of what a function returns that says one thing, with the parts of a call of it for its parameters.
func (d *drafter) unfolded(call api.Term, f int) string {
	named, settled := d.At([]int{f, 2, 0, 0})
	var out strings.Builder
	place := named.From
	for _, path := range term.Paths(settled) {
		x, _ := term.At(settled, path)
		if x.K != api.KLocal {
			continue
		}
		use, _ := term.At(named, path)
		part := call.L[len(call.L)-1-int(x.N)]
		out.WriteString(d.Text[place:use.From] + "(" + d.Bytes(part) + ")")
		place = use.To
	}
	out.WriteString(d.Text[place:named.To])
	return out.String()
}
