package engine_test

import (
	"strconv"
	"strings"
	"testing"

	"notary/api"
	"notary/bind"
	"notary/block"
	"notary/calls"
	"notary/cert"
	"notary/check"
	"notary/decls"
	"notary/deriv"
	"notary/engine"
	"notary/exec"
	"notary/face"
	"notary/flow"
	"notary/fold"
	"notary/lets"
	"notary/link"
	"notary/params"
	"notary/print"
	"notary/right"
	"notary/step"
	"notary/term"
	"notary/unit"
)

// dice is numbers that look like chance, and are the same each time.
type dice struct{ seed uint64 }

func (d *dice) to(n int) int {
	d.seed = d.seed*6364136223846793005 + 1442695040888963407
	return int(d.seed>>33) % n
}

func (d *dice) of(l ...string) string { return l[d.to(len(l))] }

// writer writes modules: which names of ints, truths and arrays of three ints are known.
type writer struct {
	dice
	ints, truths, arrays []string
	fns                  []string
	next                 int
}

func (w *writer) fresh() string {
	w.next++
	return "v" + strconv.Itoa(w.next)
}

func (w *writer) num(d int) string {
	if d <= 0 {
		switch w.to(5) {
		case 0:
			return strconv.Itoa(w.to(4))
		case 1:
			return "g"
		case 2:
			return "c"
		}
		return w.of(w.ints...)
	}
	switch w.to(16) {
	case 0, 1, 2, 3, 4:
		return "(" + w.num(d-1) + w.of(" + ", " - ", " * ") + w.num(d-1) + ")"
	case 5:
		return "(" + w.num(d-1) + w.of(" / ", " % ") + w.of("2", "3", w.num(d-1)) + ")"
	case 6:
		return "-" + w.num(d-1)
	case 7:
		return w.of(w.arrays...) + "[" + w.of("0", "1", "2", w.num(d-1)) + "]"
	case 8:
		return "[" + w.num(d-1) + ", " + w.num(d-1) + "][" + w.of("0", "1") + "]"
	case 9:
		return "new R(" + w.num(d-1) + ", " + w.truth(d-1) + ").x"
	case 10:
		return "r.x"
	case 11:
		return "read"
	case 12, 13:
		if len(w.fns) > 0 {
			return w.of(w.fns...) + "(" + w.num(w.to(2)) + ", " + w.num(0) + ")"
		}
	}
	return w.num(0)
}

func (w *writer) truth(d int) string {
	if d <= 0 {
		return w.of(append([]string{"true", "false", "t", "r.y"}, w.truths...)...)
	}
	switch w.to(5) {
	case 0:
		return "!" + w.truth(d-1)
	case 1:
		return "(" + w.truth(d-1) + w.of(" && ", " || ") + w.truth(d-1) + ")"
	}
	return "(" + w.num(d-1) + w.of(" == ", " != ", " < ", " <= ", " > ", " >= ") + w.num(d-1) + ")"
}

func (w *writer) stmts(n, d int) string {
	ints, truths, arrays := len(w.ints), len(w.truths), len(w.arrays)
	out := "{ "
	for range n {
		out += w.stmt(d) + " "
	}
	w.ints, w.truths, w.arrays = w.ints[:ints:ints], w.truths[:truths:truths], w.arrays[:arrays:arrays]
	return out + "}"
}

func (w *writer) stmt(d int) string {
	name := w.fresh()
	switch w.to(16) {
	case 0, 1, 2:
		s := "let " + name + " = " + w.num(2) + ";"
		w.ints = append(w.ints, name)
		return s
	case 3:
		s := "let " + name + " = " + w.truth(2) + ";"
		w.truths = append(w.truths, name)
		return s
	case 4:
		s := "let " + name + ": int;"
		w.ints = append(w.ints, name)
		return s + w.of("", " "+name+" = "+w.of(w.ints[:len(w.ints)-1]...)+" + 1;")
	case 5:
		s := "let " + name + " = [" + w.num(1) + ", " + w.num(0) + ", 5];"
		w.arrays = append(w.arrays, name)
		return s
	case 6, 7:
		return w.of(append([]string{"g", "r.x"}, w.ints...)...) + " = " + w.num(2) + ";"
	case 8:
		return w.of(w.arrays...) + "[" + w.of("0", "1", w.num(1)) + "] = " + w.num(1) + ";"
	case 9, 10:
		return "print " + w.num(2) + ";"
	case 11:
		return "print " + w.truth(1) + ";"
	case 12:
		return "return " + w.num(1) + ";"
	}
	if d <= 0 {
		return "print " + w.num(1) + ";"
	}
	switch w.to(5) {
	case 0:
		return "for " + name + " = 0 to " + w.of("2", "3") + " " + func() string {
			w.ints = append(w.ints, name)
			s := w.stmts(2, d-1)
			w.ints = w.ints[:len(w.ints)-1]
			return s
		}()
	case 1:
		return w.stmts(2, d-1)
	case 2:
		return "{ let " + name + " = 0; while (" + name + " < 2) { " + name + " = " + name + " + 1; " + w.stmts(1, d-1) + " } }"
	}
	return "if " + w.truth(1) + " " + w.stmts(2, d-1) + w.of("", " else "+w.stmts(1, d-1))
}

func (w *writer) fn(head, name string) string {
	w.ints, w.truths, w.arrays = []string{"a", "b"}, nil, []string{"h"}
	if head == "" && w.to(3) > 0 {
		return head + "fn " + name + "(a: int, b: int): int { return " + w.num(3) + "; } "
	}
	body := w.stmts(5, 2)
	return head + "fn " + name + "(a: int, b: int): int " + strings.TrimSuffix(body, "}") + "return a; } "
}

func (w *writer) module() string {
	out := "rec R { x: int; y: bool; } var g: int; var h: [3]int; var r: R; const c = 3; const t = true; const dead = 1; "
	w.fns = nil
	for range 2 {
		name := "f" + w.fresh()
		out += w.fn("", name)
		w.fns = append(w.fns, name)
	}
	return out + w.fn("pub ", "shown") + w.fn("pub ", "other")
}

const client = "fn main(): int { print @shown(1, 2); print @other(2, 0); print @shown(@other(3, 1), -1); return @shown(0, 0); }"

// linked is a text with the client, whose calls are named as told.
func linked(t *testing.T, text string, names []api.Naming) (api.Term, int) {
	t.Helper()
	named, m, at, e := right.Read(text)
	if e != api.OK {
		t.Fatalf("%q: %d %d", text, at, e)
	}
	c, _, _ := link.Rename(client, names)
	out, main, at, e := link.Link(m, face.Of(named, m), c)
	if e != api.OK {
		t.Fatalf("%q with %q: %d %d", text, c, at, e)
	}
	return out, main
}

// agrees asks that what is accepted does the same.
func agrees(t *testing.T, p, q string, b []byte) {
	t.Helper()
	v, e := check.Check(p, q, b)
	if e != api.OK {
		t.Fatalf("%q to %q is not accepted: %d", p, q, e)
	}
	m, f := linked(t, p, nil)
	n, g := linked(t, q, v.Names)
	for _, fuel := range []int{7, 50, 200, 1500} {
		in := []int64{3, -1, 0, 7, 2}
		for _, turn := range []bool{false, true} {
			x, i, y, j := m, f, n, g
			if turn {
				x, i, y, j = n, g, m, f
			}
			o, _ := exec.Run(x, i, in, fuel)
			r, _ := exec.Run(y, j, in, int(min(v.Slack*uint64(o.Used+1), api.MaxFuel)))
			if !link.Agree(o, r) || o.Kind != api.RunDry && r.Kind == api.RunDry && v.Slack*uint64(o.Used+1) <= api.MaxFuel {
				t.Fatalf("%q to %q (%v, %d): %v and %v", p, q, turn, fuel, o, r)
			}
		}
	}
}

// TestSameForClients: whatever is planned for whatever module does the same for a client, and can be changed back.
func TestSameForClients(t *testing.T) {
	w := &writer{dice: dice{seed: 11}}
	made := map[int]int{}
	for range 30 {
		text := w.module()
		uses, e := bind.Uses(text)
		if e != api.OK {
			t.Fatalf("%q: %d", text, e)
		}
		for range 120 {
			req := api.Request{Kind: 1 + w.to(12), From: w.to(len(text)), Name: "w"}
			req.To = req.From
			if u := uses[w.to(len(uses))]; w.to(2) == 0 {
				req.From, req.To = u.From, u.To
			} else if m, _, _ := unit.Parse(text); w.to(4) > 0 {
				ps := term.Paths(m)
				x, _ := term.At(m, ps[w.to(len(ps))])
				for range 40 {
					if req.Kind == api.ReqInlineFn && x.K != api.KCall {
						x, _ = term.At(m, ps[w.to(len(ps))])
					}
				}
				req.From, req.To = x.From, x.To
			}
			switch req.Kind {
			case api.ReqSignature:
				req.Nums = [][]int{{0}, {1}, {1, 0}}[w.to(3)]
			case api.ReqDead:
				req.Nums = [][]int{nil, {0}, {1}}[w.to(3)]
			case api.ReqSplit:
				req.Nums = [][]int{nil, {1}}[w.to(2)]
			case api.ReqReorder:
				req.Nums = []int{10, 3, 8, 0, 2, 1, 4, 9, 7, 6, 5}
			}
			p, e := engine.Make(text, req)
			if e != api.OK {
				continue
			}
			made[req.Kind]++
			out, _ := engine.Apply(text, p)
			agrees(t, text, out, p.Cert)
			b, e := check.Flip(text, out, p.Cert)
			if e != api.OK {
				t.Fatal(e)
			}
			if _, e := check.Check(out, text, b); e != api.OK {
				t.Fatalf("%q to %q: %d", out, text, e)
			}
		}
	}
	for kind := api.ReqRename; kind <= api.ReqConst; kind++ {
		if made[kind] < 3 {
			t.Errorf("%d plans of the kind %d", made[kind], kind)
		}
	}
}

// some is a step by one of so many ways, somewhere in a module, if one is found.
func (w *writer) some(m api.Term) (api.Term, api.Step, bool) {
	way := w.to(12)
	for range 150 {
		s, ok := w.step(m, way)
		if !ok {
			continue
		}
		if n, f, e := step.Apply(m, s); e == api.OK && f < 300 {
			return n, s, true
		}
	}
	return m, api.Step{}, false
}

// step is a step by a way, at a place where it might be made.
func (w *writer) step(m api.Term, way int) (api.Step, bool) {
	ps := term.Paths(m)
	path := ps[w.to(len(ps))]
	x, _ := term.At(m, path)
	n := w.to(max(len(x.L), 1))
	var s api.Step
	var ok bool
	switch way {
	case 0:
		s.Rule = api.Fold
		s.Term, ok = fold.Value(x)
	case 1:
		s.Rule = api.ForWhile
		s.Term, ok = flow.Loop(x)
	case 2:
		s.Rule, s.Nums = api.BlockFlat, []int{n}
		s.Term, ok = block.Flat(x, n)
	case 3:
		s.Rule, s.Nums = []int{api.LetSubst, api.LetNext}[w.to(2)], []int{n}
		s.Term, ok = lets.Inline(m, x, n)
	case 4, 5:
		s.Rule = api.CallUnfold
		s.Term, ok = calls.Unfold(m, x)
	case 6:
		s.Rule, s.Nums, path = api.DropDecl, []int{w.to(len(m.L))}, nil
		s.Term, ok = decls.Drop(m, s.Nums[0])
	case 7:
		s.Rule, s.Nums, path = api.PermParams, []int{w.to(len(m.L)), 1, 0}, nil
		s.Term, ok = params.Perm(m, s.Nums)
	case 8:
		s.Rule, s.Nums, path = api.DropParam, []int{w.to(len(m.L)), w.to(2)}, nil
		s.Term, _, ok = params.Drop(m, s.Nums)
	case 9:
		if x.K == api.KIf {
			s.Rule, ok = api.IfInvert, true
			s.Term = api.Term{K: api.KIf, L: []api.Term{{K: api.KUn, N: api.OpNot, L: x.L[:1]}, x.L[2], x.L[1]}}
		}
	case 10:
		if x.K == api.KBin {
			s.Rule = []int{api.AddComm, api.MulComm, api.AndComm, api.OrComm, api.EqComm, api.NeComm}[w.to(6)]
			s.Term, ok = api.Term{K: x.K, N: x.N, L: []api.Term{x.L[1], x.L[0]}}, true
		}
	case 11:
		if x.K == api.KWhile {
			s.Rule, ok = api.WhileUnroll, true
			s.Term = api.Term{K: api.KIf, L: []api.Term{x.L[0], {K: api.KBlock, L: []api.Term{x.L[1], x}}, {K: api.KBlock}}}
		}
	}
	s.Path = path
	return s, ok
}

// named is a settled module with names, as a text.
func (w *writer) named(m api.Term) string {
	return print.Text(spell(m, nil, 0))
}

// spell gives each declaration and each local a name of its own.
func spell(t api.Term, locals []string, depth int) api.Term {
	decl := func(n int64) string { return "d" + strconv.Itoa(int(n)) }
	fresh := func() string { return "l" + strconv.Itoa(depth) + "_" + strconv.Itoa(len(locals)) }
	switch t.K {
	case api.KLocal:
		return api.Term{K: api.KName, S: locals[len(locals)-1-int(t.N)]}
	case api.KConst, api.KGlobal:
		return api.Term{K: api.KName, S: decl(t.N)}
	case api.KCall, api.KMake, api.KRec:
		t.S = decl(t.N)
		t.N = 0
	case api.KField:
		t.S = "x" + strconv.Itoa(int(t.N%64))
		t.N = 0
	case api.KLet, api.KNew:
		t.S = fresh()
	}
	l := t.L
	t.L = nil
	for i, p := range l {
		inner := locals
		switch {
		case t.K == api.KFor && i == 2:
			t.S = fresh()
			inner = append(locals[:len(locals):len(locals)], t.S)
		case t.K == api.KFn && i == 2:
			inner = []string{"pa", "pb"}[:len(l[0].L)]
			for j := range t.L[0].L {
				t.L[0].L[j].S = inner[j]
			}
		}
		q := spell(p, inner, depth+1)
		switch {
		case t.K == api.KModule:
			q.S = decl(int64(i))
		case t.K == api.KRecord:
			q.S = "x" + strconv.Itoa(i)
		case t.K == api.KBlock && (p.K == api.KLet || p.K == api.KNew):
			locals = append(locals[:len(locals):len(locals)], q.S)
		}
		t.L = append(t.L, q)
	}
	return t
}

// TestDerivationsForClients: whatever derivation runs, and its inverse, are accepted, and do the same for a client.
func TestDerivationsForClients(t *testing.T) {
	w := &writer{dice: dice{seed: 5}}
	rules := map[int]int{}
	accepted := 0
	for range 60 {
		p := w.module()
		_, first, at, e := right.Read(p)
		if e != api.OK {
			t.Fatalf("%q: %d %d", p, at, e)
		}
		m := first
		var l []api.Deriv
		for range 6 {
			n, s, ok := w.some(m)
			if ok && len(l) < 3 {
				l = append(l, api.Deriv{K: api.DerStep, Step: s})
				rules[s.Rule]++
				m = n
			}
		}
		d := api.Deriv{K: api.DerSeq, L: l}
		last, _, pairs, _, e := deriv.Run(first, d)
		q := w.named(m)
		for i, n := range []string{"shown", "other"} {
			for _, x := range pairs {
				if x.A == len(first.L)-2+i {
					q = strings.ReplaceAll(q, "d"+strconv.Itoa(x.B)+" ", n+" ")
				}
			}
		}
		if e != api.OK || !term.Same(last, m) {
			t.Fatal(e)
		}
		if _, read, _, e := right.Read(q); e != api.OK || !term.Same(read, m) {
			continue // a number below 0 is read as an opposite
		}
		accepted++
		b, e := cert.Bytes(api.Cert{Pairs: pairs, Regions: []api.Region{{ToP: len(p), ToQ: len(q)}}, Deriv: d})
		if e != api.OK {
			t.Fatal(e)
		}
		agrees(t, p, q, b)
		b, e = check.Flip(p, q, b)
		if e != api.OK {
			t.Fatal(e)
		}
		if _, e := check.Check(q, p, b); e != api.OK {
			t.Fatal(e)
		}
	}
	if accepted < 30 {
		t.Errorf("only %d derivations were accepted", accepted)
	}
	for _, rule := range []int{api.Fold, api.ForWhile, api.BlockFlat, api.LetSubst, api.LetNext, api.CallUnfold, api.DropDecl, api.PermParams, api.DropParam, api.IfInvert, api.WhileUnroll, api.AddComm} {
		if rules[rule] == 0 {
			t.Errorf("no step of the rule %d", rule)
		}
	}
}
