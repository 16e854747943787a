package funcs

import (
	"slices"
	"strings"

	"notary/api"
	"notary/calls"
	"notary/decls"
	"notary/right"
	"notary/term"
	"notary/typer"
)

// localsOf is the numbers of the locals in an expression, each once, the greatest first.
func localsOf(t api.Term) []int64 {
	var out []int64
	for _, path := range term.Paths(t) {
		if x, _ := term.At(t, path); x.K == api.KLocal && !slices.Contains(out, x.N) {
			out = append(out, x.N)
		}
	}
	slices.Sort(out)
	slices.Reverse(out)
	return out
}

// nameOf is how the uses of a local in an expression are spelt.
func nameOf(named, settled api.Term, local int64) string {
	for _, path := range term.Paths(settled) {
		if x, _ := term.At(settled, path); x.K == api.KLocal && x.N == local {
			use, _ := term.At(named, path)
			return use.S
		}
	}
	return ""
}

// asParameters is an expression in which each local is the parameter that stands for it.
func asParameters(t api.Term, locals []int64) api.Term {
	if t.K == api.KLocal {
		t.N = int64(len(locals) - 1 - slices.Index(locals, t.N))
	}
	l := t.L
	t.L = nil
	for _, part := range l {
		t.L = append(t.L, asParameters(part, locals))
	}
	return t
}

// made is the function that an expression becomes: the types of its parameters, and its result's, are told.
func made(e api.Term, locals []int64, types []api.Term, result api.Term) api.Term {
	list := api.Term{K: api.KParams}
	for _, t := range types {
		list.L = append(list.L, api.Term{K: api.KPart, L: []api.Term{t}})
	}
	says := api.Term{K: api.KReturn, L: []api.Term{asParameters(e, locals)}}
	return api.Term{K: api.KFn, L: []api.Term{list, result, {K: api.KBlock, L: []api.Term{says}}}}
}

// insert is a module with a declaration more at a place, which names others by their old places; all are renumbered.
func insert(m api.Term, i int, decl api.Term) api.Term {
	last := len(m.L)
	m.L = append(slices.Clone(m.L), decl)
	var nums []int
	for j := range last {
		if j == i {
			nums = append(nums, last)
		}
		nums = append(nums, j)
	}
	out, _ := decls.Perm(m, nums)
	return out
}

func (d *drafter) extract() draft {
	path, ok := d.selected()
	if !ok {
		return fails(api.ErrSelect)
	}
	named, e := d.at(path)
	known, _ := right.Locals(d.settled, path)
	result, _, _, _ := typer.Of(d.settled, known, e)
	locals := localsOf(e)
	var types, args []api.Term
	var names, list []string
	for _, n := range locals {
		kind := known[len(known)-1-int(n)]
		name := nameOf(named, e, n)
		types = append(types, kind)
		args = append(args, api.Term{K: api.KLocal, N: n})
		names = append(names, name)
		list = append(list, name+": "+d.typeText(kind))
	}
	i := path[0]
	moved := slices.Clone(path)
	moved[0]++
	head := "fn " + d.req.Name + "(" + strings.Join(list, ", ") + "): " + d.typeText(result)
	place := d.named.L[i].From
	return draft{
		edits: []api.Edit{
			{From: place, To: place, Text: head + " { return " + d.bytes(named) + "; }\n"},
			{From: named.From, To: named.To, Text: d.req.Name + "(" + strings.Join(names, ", ") + ")"},
		},
		steps: []api.Step{
			{Rule: api.DropDecl, Back: true, Nums: []int{i}, Term: insert(d.settled, i, made(e, locals, types, result))},
			{Rule: api.CallUnfold, Back: true, Path: moved, Term: api.Term{K: api.KCall, N: int64(i), L: args}},
		},
	}
}

func (d *drafter) inline() draft {
	path, ok := d.selected()
	named, call := d.at(path)
	if !ok || call.K != api.KCall {
		return fails(api.ErrSelect)
	}
	r, ok := calls.Unfold(d.settled, call)
	if !ok || int64(path[0]) == call.N {
		return fails(api.ErrSide)
	}
	return draft{
		edits: []api.Edit{{From: named.From, To: named.To, Text: "(" + d.unfolded(named, int(call.N)) + ")"}},
		steps: []api.Step{{Rule: api.CallUnfold, Path: path, Term: r}},
	}
}

// unfolded is the text of what a function returns that says one thing, with the parts of a call of it for its parameters.
func (d *drafter) unfolded(call api.Term, f int) string {
	named, settled := d.at([]int{f, 2, 0, 0})
	var out strings.Builder
	place := named.From
	for _, path := range term.Paths(settled) {
		x, _ := term.At(settled, path)
		if x.K != api.KLocal {
			continue
		}
		use, _ := term.At(named, path)
		part := call.L[len(call.L)-1-int(x.N)]
		out.WriteString(d.text[place:use.From] + "(" + d.bytes(part) + ")")
		place = use.To
	}
	out.WriteString(d.text[place:named.To])
	return out.String()
}
