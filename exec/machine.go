package exec

import (
	"slices"

	"notary/api"
	"notary/arith"
	"notary/value"
)

const fieldsPerRecord = 64

// machine runs the terms of a right module.
type machine struct {
	module api.Term
	s      api.State
}

// begin is a machine in a state of its own.
func begin(m api.Term, s api.State) *machine {
	s.Globals = slices.Clone(s.Globals)
	s.Locals = slices.Clone(s.Locals)
	s.Input = slices.Clone(s.Input)
	s.Trace = slices.Clone(s.Trace)
	return &machine{module: m, s: s}
}

// end is the machine's state, of which no two values share memory.
func (x *machine) end() api.State {
	s := x.s
	for i, v := range s.Globals {
		s.Globals[i] = fresh(v)
	}
	for i, v := range s.Locals {
		s.Locals[i] = fresh(v)
	}
	s.Ret = fresh(s.Ret)
	return s
}

// goes asks whether the run goes on.
func (x *machine) goes() bool {
	return x.s.Kind == 0
}

// pay takes one of fuel; false, if the run has ended, or ends by that.
func (x *machine) pay() bool {
	if !x.goes() {
		return false
	}
	if x.s.Fuel <= 0 {
		x.s.Kind = api.RunDry
		return false
	}
	x.s.Fuel--
	return true
}

func (x *machine) trap(n int) {
	x.s.Kind, x.s.N = api.RunTrap, int64(n)
}

// run runs a term; of what has ended the value is the zero value.
func (x *machine) run(t api.Term) api.Value {
	if !x.pay() {
		return api.Value{}
	}
	v := x.term(t)
	if !x.goes() {
		return api.Value{}
	}
	return v
}

// each runs parts by the method for one, from left to right.
func (x *machine) each(l []api.Term, one func(t api.Term) api.Value) []api.Value {
	var out []api.Value
	for _, t := range l {
		out = append(out, one(t))
	}
	return out
}

// term is what a term does that was paid for.
func (x *machine) term(t api.Term) api.Value {
	switch t.K {
	case api.KNum, api.KTruth:
		return api.Value{N: t.N}
	case api.KLocal, api.KGlobal:
		return *x.kept(t)
	case api.KConst:
		return api.Value{N: x.module.L[t.N].L[0].N}
	case api.KBin:
		return x.two(t)
	case api.KUn:
		return x.one(t)
	case api.KIndex:
		return x.index(t)
	case api.KField:
		v, _ := value.Get(x.run(t.L[0]), []int{int(t.N % fieldsPerRecord)})
		return v
	case api.KList, api.KMake:
		return api.Value{L: x.each(t.L, x.run)}
	case api.KCall:
		args := x.each(t.L, x.run)
		if x.goes() {
			return x.call(int(t.N), args)
		}
	case api.KRead:
		return x.read()
	default:
		x.stmt(t)
	}
	return api.Value{}
}

// kept is where a local or a global is kept.
func (x *machine) kept(t api.Term) *api.Value {
	if t.K == api.KLocal {
		return &x.s.Locals[len(x.s.Locals)-1-int(t.N)]
	}
	return &x.s.Globals[t.N]
}

func (x *machine) two(t api.Term) api.Value {
	a := x.run(t.L[0])
	if !x.goes() {
		return api.Value{}
	}
	if t.N == api.OpAnd && a.N == 0 || t.N == api.OpOr && a.N != 0 {
		return api.Value{N: a.N}
	}
	b := x.run(t.L[1])
	if !x.goes() {
		return api.Value{}
	}
	n, trap := arith.Two(t.N, a.N, b.N)
	if trap != 0 {
		x.trap(trap)
	}
	return api.Value{N: n}
}

func (x *machine) one(t api.Term) api.Value {
	a := x.run(t.L[0])
	n, _ := arith.One(t.N, a.N)
	return api.Value{N: n}
}

func (x *machine) index(t api.Term) api.Value {
	array := x.run(t.L[0])
	i := x.run(t.L[1])
	if !x.goes() {
		return api.Value{}
	}
	v, ok := value.Get(array, []int{int(i.N)})
	if !ok {
		x.trap(api.TrapIndex)
	}
	return v
}

func (x *machine) read() api.Value {
	if x.s.At >= len(x.s.Input) {
		x.trap(api.TrapRead)
		return api.Value{}
	}
	x.s.At++
	return api.Value{N: x.s.Input[x.s.At-1]}
}

// call is what the function at a place comes to; the locals of ahead come back, however it ends.
func (x *machine) call(f int, args []api.Value) api.Value {
	ahead := x.s.Locals
	x.s.Locals = args
	x.run(x.module.L[f].L[2])
	x.s.Locals = ahead
	switch x.s.Kind {
	case 0:
		return value.Zero(x.module, x.module.L[f].L[1])
	case api.RunDone:
		v := x.s.Ret
		x.s.Kind, x.s.Ret = 0, api.Value{}
		return v
	}
	return api.Value{}
}

// stmt is what a statement does.
func (x *machine) stmt(t api.Term) {
	switch t.K {
	case api.KBlock:
		known := len(x.s.Locals)
		x.each(t.L, x.run)
		x.s.Locals = x.s.Locals[:known]
	case api.KLet:
		x.s.Locals = append(x.s.Locals, x.run(t.L[0]))
	case api.KNew:
		x.s.Locals = append(x.s.Locals, value.Zero(x.module, t.L[0]))
	case api.KSet:
		x.set(t)
	case api.KIf:
		if v := x.run(t.L[0]); v.N != 0 {
			x.run(t.L[1])
		} else {
			x.run(t.L[2])
		}
	case api.KWhile:
		for x.run(t.L[0]).N != 0 {
			x.run(t.L[1])
		}
	case api.KFor:
		x.count(t)
	case api.KPrint:
		if v := x.run(t.L[0]); x.goes() {
			x.s.Trace = append(x.s.Trace, v.N)
		}
	case api.KReturn:
		if v := x.run(t.L[0]); x.goes() {
			x.s.Ret, x.s.Kind = v, api.RunDone
		}
	case api.KDo:
		x.run(t.L[0])
	}
}

func (x *machine) count(t api.Term) {
	from := x.run(t.L[0])
	to := x.run(t.L[1])
	for i := from.N; x.pay() && i < to.N; i++ {
		x.s.Locals = append(x.s.Locals, api.Value{N: i})
		x.run(t.L[2])
		x.s.Locals = x.s.Locals[:len(x.s.Locals)-1]
	}
}

func (x *machine) set(t api.Term) {
	v := x.run(t.L[1])
	root, way := x.way(t.L[0])
	if !x.goes() {
		return
	}
	kept := x.kept(root)
	*kept, _ = value.Set(*kept, way, v)
}

// way is the root of a place, and the way from there; only indices are run.
func (x *machine) way(t api.Term) (api.Term, []int) {
	if !x.goes() || t.K != api.KIndex && t.K != api.KField {
		return t, nil
	}
	root, way := x.way(t.L[0])
	if t.K == api.KField {
		return root, append(way, int(t.N%fieldsPerRecord))
	}
	i := x.run(t.L[1])
	if !x.goes() {
		return root, nil
	}
	way = append(way, int(i.N))
	if _, ok := value.Get(*x.kept(root), way); !ok {
		x.trap(api.TrapIndex)
	}
	return root, way
}
