package deriv_test

import (
	"reflect"
	"slices"
	"testing"

	"notary/api"
	"notary/deriv"
	"notary/exec"
	"notary/link"
	"notary/right"
	"notary/step"
	"notary/term"
)

type (
	T = api.Term
	D = api.Deriv
)

func module(t *testing.T, text string) T {
	t.Helper()
	_, m, at, e := right.Read(text)
	if e != api.OK {
		t.Fatalf("%q: %d %d", text, at, e)
	}
	return m
}

func leaf(s api.Step) D                { return D{K: api.DerStep, Step: s} }
func seq(l ...D) D                     { return D{K: api.DerSeq, L: l} }
func at(path []int, l ...D) D          { return D{K: api.DerAt, Path: path, L: l} }
func rule(n int, path ...int) api.Step { return api.Step{Rule: n, Path: path} }

func TestSteps(t *testing.T) {
	full := api.Step{Rule: 5, Back: true, Path: []int{0, 0}, Nums: []int{7, 8}, Term: T{K: 3, From: 2}}
	placed := full
	placed.Path = []int{0, 2, 0, 0}
	for i, c := range []struct {
		d    D
		want []api.Step
	}{
		{seq(), nil}, {at([]int{1, 2}), nil}, {at(nil, seq(), at([]int{3})), nil}, {leaf(api.Step{}), []api.Step{{}}}, {at([]int{0, 2}, leaf(full)), []api.Step{placed}},
		{seq(leaf(rule(1, 9)), at([]int{4}, leaf(rule(2)), seq(leaf(rule(3, 1)), at([]int{5, 6}, leaf(rule(4, 7)), leaf(rule(5)))), leaf(rule(6, 2))), leaf(rule(7))), []api.Step{rule(1, 9), rule(2, 4), rule(3, 4, 1), rule(4, 4, 5, 6, 7), rule(5, 4, 5, 6), rule(6, 4, 2), rule(7)}},
		{D{K: api.DerSeq, Path: []int{}, L: []D{}}, nil},
	} {
		l, e := deriv.Steps(c.d)
		ok := len(l) == len(c.want) && e == api.OK
		for j := range min(len(l), len(c.want)) {
			a, b := l[j], c.want[j]
			ok = ok && a.Rule == b.Rule && a.Back == b.Back && slices.Equal(a.Path, b.Path) && slices.Equal(a.Nums, b.Nums) && reflect.DeepEqual(a.Term, b.Term)
		}
		if !ok {
			t.Errorf("%d: %v %d", i, l, e)
		}
	}
	l, _ := deriv.Steps(at([]int{1, 2, 3}, leaf(rule(1, 4)), leaf(rule(2, 5))))
	l[0].Path[3] = 9
	l[0].Path = append(l[0].Path[:3], 8)
	if !slices.Equal(l[1].Path, []int{1, 2, 3, 5}) {
		t.Error("two paths share memory")
	}
}

func TestStepsErrors(t *testing.T) {
	many := func(n int) D {
		return D{K: api.DerSeq, L: slices.Repeat([]D{leaf(rule(1))}, n)}
	}
	one := D{K: 9}
	for i, c := range []struct {
		d D
		e api.Errno
	}{
		{D{}, api.ErrKind}, {D{K: -1}, api.ErrKind}, {D{K: 4, Path: []int{1}}, api.ErrKind}, {seq(seq(), one), api.ErrKind}, {D{K: api.DerStep, Path: []int{1}}, api.ErrForm}, {D{K: api.DerStep, L: []D{one}}, api.ErrForm}, {D{K: api.DerSeq, Path: []int{1}, L: []D{one}}, api.ErrForm},
		{D{K: api.DerSeq, Step: rule(1), L: []D{one}}, api.ErrForm}, {D{K: api.DerAt, Step: rule(1)}, api.ErrForm}, {D{K: api.DerAt, Step: api.Step{Back: true}}, api.ErrForm}, {D{K: api.DerAt, Step: rule(0, 1)}, api.ErrForm}, {D{K: api.DerSeq, Step: api.Step{Nums: []int{0}}}, api.ErrForm}, {D{K: api.DerSeq, Step: api.Step{Term: T{K: 1}}}, api.ErrForm}, {D{K: api.DerSeq, Step: api.Step{Term: T{To: 1}}}, api.ErrForm}, {D{K: api.DerSeq, Step: api.Step{Term: T{From: 1}}}, api.ErrForm}, {D{K: api.DerAt, Step: api.Step{Term: T{L: []T{{}}}}}, api.ErrForm}, {D{K: api.DerSeq, Step: api.Step{Path: []int{}, Nums: []int{}, Term: T{L: []T{}}}}, api.OK},
		{many(api.MaxSteps), api.OK}, {many(api.MaxSteps + 1), api.ErrLong}, {seq(many(api.MaxSteps), one), api.ErrKind}, {seq(many(api.MaxSteps+1), one), api.ErrLong}, {seq(one, many(api.MaxSteps+1)), api.ErrKind}, {seq(many(40), at(nil, many(24)), seq()), api.OK}, {seq(many(40), at(nil, many(25))), api.ErrLong}, {seq(D{K: api.DerSeq, Path: []int{1}}, one), api.ErrForm},
	} {
		l, e := deriv.Steps(c.d)
		if e != c.e || e != api.OK && len(l) != 0 {
			t.Errorf("%d: %d, not %d", i, e, c.e)
		}
		if c.e == api.OK {
			continue
		}
		if m, slack, pairs, n, e := deriv.Run(T{}, c.d); e != c.e || n != 0 || slack != 0 || len(pairs) != 0 || !reflect.DeepEqual(m, T{}) {
			t.Errorf("%d runs: %d %d", i, n, e)
		}
		if d, e := deriv.Invert(T{}, c.d); e != c.e || !reflect.DeepEqual(d, D{}) {
			t.Errorf("%d is inverted: %d", i, e)
		}
	}
}

const text = "var u: int; fn f(a: int): int { return a + 0 + 2 * 3; } const c = 1; pub fn g(b: int): int { print b - b; return f(b); }"

// long has five steps: a sum is folded, a constant goes, what is left changes places.
func long(t *testing.T) (T, D, T) {
	m := module(t, text)
	n := module(t, "pub fn g(b: int): int { print b - b; return f(b); } fn f(a: int): int { return a + 6; }")
	a := T{K: api.KLocal}
	first := at([]int{1, 2, 0, 0}, leaf(api.Step{Rule: api.AddZero, Path: []int{0}, Term: a}), leaf(api.Step{Rule: api.Fold, Path: []int{1}, Term: T{K: api.KNum, N: 6}}))
	now, _, _, _, e := deriv.Run(m, first)
	if e != api.OK {
		t.Fatal(e)
	}
	without := T{K: api.KModule, L: slices.Delete(slices.Clone(now.L), 2, 3)}
	without.L[2] = module(t, "var u: int; fn f(a: int): int { return a + 6; } pub fn g(b: int): int { print b - b; return f(b); }").L[2]
	second := leaf(api.Step{Rule: api.DropDecl, Nums: []int{2}, Term: without})
	third := module(t, "fn f(a: int): int { return a + 6; } pub fn g(b: int): int { print b - b; return f(b); }")
	return m, seq(first, second, seq(leaf(api.Step{Rule: api.DropDecl, Nums: []int{0}, Term: third}), leaf(api.Step{Rule: api.PermDecls, Nums: []int{1, 0}, Term: n}))), n
}

func TestRun(t *testing.T) {
	m, d, n := long(t)
	kept := term.Bare(m)
	x, slack, pairs, at, e := deriv.Run(m, d)
	if e != api.OK || at != 0 || !term.Same(x, n) || slack != 6*6 || !slices.Equal(pairs, []api.Pair{{A: 1, B: 1}, {A: 3, B: 0}}) || !term.Same(m, kept) {
		t.Fatal(x, slack, pairs, at, e)
	}
	back, e := deriv.Invert(m, d)
	if e != api.OK || back.K != api.DerSeq || len(back.Path) != 0 || len(back.L) != 5 {
		t.Fatal(back, e)
	}
	for i, rule := range []int{api.PermDecls, api.DropDecl, api.DropDecl, api.Fold, api.AddZero} {
		if back.L[i].K != api.DerStep || back.L[i].Step.Rule != rule || !back.L[i].Step.Back {
			t.Errorf("step %d back: %v", i, back.L[i].Step)
		}
	}
	y, slack, pairs, _, e := deriv.Run(n, back)
	if e != api.OK || !term.Same(y, m) || slack != 36 || !slices.Equal(pairs, []api.Pair{{A: 0, B: 3}, {A: 1, B: 1}}) {
		t.Error(y, slack, pairs, e)
	}
	y, slack, pairs, _, e = deriv.Run(m, seq(d, back))
	if e != api.OK || !term.Same(y, m) || slack != 36*36 || !slices.Equal(pairs, []api.Pair{{A: 1, B: 1}, {A: 3, B: 3}}) {
		t.Error("there and back", slack, pairs, e)
	}
	for _, empty := range []D{seq(), at2(), seq(seq(), at2())} {
		for _, z := range []T{m, {}, {K: api.KBlock, L: []T{{}, {}}}} {
			y, slack, pairs, at, e := deriv.Run(z, empty)
			if e != api.OK || at != 0 || slack != 1 || len(pairs) != len(z.L) || !reflect.DeepEqual(y, z) {
				t.Errorf("no steps: %v %d %v %d", y, slack, pairs, e)
			}
			for i, p := range pairs {
				if p.A != i || p.B != i {
					t.Error(pairs)
				}
			}
			if b, e := deriv.Invert(z, empty); e != api.OK || b.K != api.DerSeq || len(b.L) != 0 {
				t.Error(b, e)
			}
		}
	}
}

func at2() D { return D{K: api.DerAt, Path: []int{7, 7}} }

func TestExample(t *testing.T) {
	l, e := deriv.Steps(at([]int{0, 2}, leaf(rule(api.AddZero, 0, 0))))
	if e != api.OK || len(l) != 1 || l[0].Rule != api.AddZero || !slices.Equal(l[0].Path, []int{0, 2, 0, 0}) {
		t.Error(l, e)
	}
}

func TestErrors(t *testing.T) {
	m := module(t, "fn f(a: int): int { return a + 0; }")
	good := api.Step{Rule: api.AddZero, Path: []int{0, 2, 0, 0}, Term: T{K: api.KLocal}}
	undo, _ := step.Back(m, good)
	n, _, _ := step.Apply(m, good)
	side, path := good, good
	side.Rule, path.Path = api.MulOne, []int{0, 2, 9}
	turns := func(n int) []D { return slices.Repeat([]D{leaf(good), leaf(undo)}, n) }
	for i, c := range []struct {
		m  T
		d  D
		at int
		e  api.Errno
	}{
		{T{}, leaf(good), 0, api.ErrPlace}, {m, leaf(api.Step{}), 0, api.ErrRule}, {m, leaf(path), 0, api.ErrPath}, {m, seq(leaf(good), leaf(good)), 1, api.ErrSide}, {m, seq(leaf(good), leaf(undo), leaf(side)), 2, api.ErrSide}, {n, leaf(good), 0, api.ErrSide},
		{m, seq(turns(6)...), 0, api.OK}, {m, seq(turns(7)...), 12, api.ErrSlack}, {m, seq(append(turns(6), leaf(api.Step{Rule: api.AddZero, Path: path.Path}))...), 12, api.ErrPath},
	} {
		x, slack, pairs, at, e := deriv.Run(c.m, c.d)
		if e != c.e || at != c.at || e != api.OK && (slack != 0 || len(pairs) != 0 || !reflect.DeepEqual(x, T{})) {
			t.Errorf("%d: %d %d", i, at, e)
		}
		if d, e := deriv.Invert(c.m, c.d); e != c.e || e != api.OK && !reflect.DeepEqual(d, D{}) {
			t.Errorf("%d inverted: %d", i, e)
		}
	}
}

// TestSlack: just MaxSlack may be, which is 2 to the power 32.
func TestSlack(t *testing.T) {
	plain := module(t, "fn f(): int { return 1; } fn k(): int { return f(); }")
	wide := module(t, "fn f(a: bool): int { return 1; } fn k(): int { return f(true); }")
	wider := module(t, "fn f(a: bool): int { return 1; } fn k(): int { return f(!true); }")
	four := func(with T) []D {
		return []D{leaf(api.Step{Rule: api.DropParam, Back: true, Nums: []int{0, 0}, Term: with}), leaf(api.Step{Rule: api.DropParam, Nums: []int{0, 0}, Term: plain})}
	}
	sixteen := append(four(wider), four(wider)...)
	_, slack, _, _, e := deriv.Run(plain, seq(sixteen...))
	if e != api.OK || slack != 256 {
		t.Fatal(slack, e)
	}
	just := slices.Repeat(sixteen, 4)
	if _, slack, _, _, e := deriv.Run(plain, seq(just...)); e != api.OK || slack != api.MaxSlack {
		t.Error("just MaxSlack", slack, e)
	}
	if _, _, _, at, e := deriv.Run(plain, seq(append(just, four(wide)...)...)); e != api.ErrSlack || at != 16 {
		t.Error("more than MaxSlack", at, e)
	}
}

// TestSameRuns: what is public does the same behind a derivation, where the pairs say, within the slack.
func TestSameRuns(t *testing.T) {
	m, d, _ := long(t)
	n, slack, pairs, _, _ := deriv.Run(m, d)
	for fuel := range 60 {
		_, s, _ := exec.Call(m, exec.Start(m, nil, fuel), 3, []api.Value{{N: 4}})
		_, r, _ := exec.Call(n, exec.Start(n, nil, int(slack)*(fuel+1)), pairs[1].B, []api.Value{{N: 4}})
		if !link.Agree(api.Outcome{Kind: max(s.Kind, 1), Trace: s.Trace}, api.Outcome{Kind: max(r.Kind, 1), Trace: r.Trace}) || s.Kind == 0 && r.Kind != 0 {
			t.Errorf("with %d: %v %v", fuel, s, r)
		}
	}
}
