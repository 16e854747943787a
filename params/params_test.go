package params_test

import (
	"math"
	"reflect"
	"slices"
	"testing"

	"notary/api"
	"notary/exec"
	"notary/params"
	"notary/right"
	"notary/term"
)

type T = api.Term

func module(t *testing.T, text string) T {
	t.Helper()
	_, m, at, e := right.Read(text)
	if e != api.OK {
		t.Fatalf("%q: %d %d", text[at:], at, e)
	}
	return m
}

func TestExample(t *testing.T) {
	m := module(t, "fn f(a: int, b: int): int { return a; } fn g(): int { return f(1, 2); }")
	x, ok := params.Perm(m, []int{0, 1, 0})
	if !ok || !term.Same(x, module(t, "fn f(b: int, a: int): int { return a; } fn g(): int { return f(2, 1); }")) {
		t.Error(x)
	}
	x, n, ok := params.Drop(m, []int{0, 1})
	if !ok || n != 1 || !term.Same(x, module(t, "fn f(a: int): int { return a; } fn g(): int { return f(1); }")) {
		t.Error(x, n)
	}
	self := module(t, "fn f(a: int, b: int): int { return f(a, b); }")
	if _, _, ok := params.Drop(self, []int{0, 1}); ok {
		t.Error("a parameter that is only handed on is mentioned")
	}
	for _, f := range []int{2, 3} {
		if _, ok := params.Perm(m, []int{f}); ok {
			t.Error("there is no such place", f)
		}
	}
	if x, n, ok := params.Drop(m, []int{0, 0}); ok || n != 0 || !reflect.DeepEqual(x, T{}) {
		t.Error("a is mentioned", x)
	}
}

const text = "var g: int; fn f(a: int, b: bool, c: [2]int): int { let d = a; for i = d to c[0] { let e = i + a; if b { print e; c[1] = d; } } while b { b = false; let a = c; print a[1] + d; } if a > 3 { return 0; } return f(a + 1, !b, c) + c[1]; } pub fn main(): int { let x = 5; { let y = [x, g]; g = f(g, x > g, [x, 7]) + f(1, true, y); } return h(g) + f(x, false, [1, x]); } fn h(k: int): int { return f(k + k, k < 2, [k, 1]); }"

const turned = "var g: int; fn f(c: [2]int, a: int, b: bool): int { let d = a; for i = d to c[0] { let e = i + a; if b { print e; c[1] = d; } } while b { b = false; let a = c; print a[1] + d; } if a > 3 { return 0; } return f(c, a + 1, !b) + c[1]; } pub fn main(): int { let x = 5; { let y = [x, g]; g = f([x, 7], g, x > g) + f(y, 1, true); } return h(g) + f([1, x], x, false); } fn h(k: int): int { return f([k, 1], k + k, k < 2); }"

func TestPerm(t *testing.T) {
	m := module(t, text)
	kept := module(t, text)
	x, ok := params.Perm(m, []int{1, 2, 0, 1})
	if !ok || !term.Same(x, module(t, turned)) || !reflect.DeepEqual(m, kept) {
		t.Error(x)
	}
	run, _ := exec.Run(m, 2, nil, 9000)
	for _, nums := range [][]int{{1, 0, 1, 2}, {1, 0, 2, 1}, {1, 1, 0, 2}, {1, 1, 2, 0}, {1, 2, 0, 1}, {1, 2, 1, 0}} {
		x, ok := params.Perm(m, nums)
		if !ok || !right.Right(x) || !params.Holds(api.PermParams, nums, m, x) || params.Holds(api.DropParam, nums, m, x) || params.Holds(api.PermDecls, nums, m, x) {
			t.Fatalf("%v: %v", nums, x)
		}
		if again, _ := exec.Run(x, 2, nil, 9000); !reflect.DeepEqual(run, again) || run.Kind != api.RunDone {
			t.Errorf("%v: %v, not %v", nums, again, run)
		}
		back := []int{1, 0, 0, 0}
		for i, n := range nums[1:] {
			back[n+1] = i
		}
		if y, _ := params.Perm(x, back); !reflect.DeepEqual(y, m) {
			t.Errorf("%v does not come back", nums)
		}
	}
	for _, nums := range [][]int{nil, {1}, {1, 0, 1}, {1, 0, 1, 2, 3}, {1, 0, 1, 1}, {1, 0, 1, 3}, {1, -1, 0, 1}, {0, 0, 1, 2}, {2}, {9, 0}, {-1, 0, 1, 2}, {math.MaxInt, 0}, {math.MinInt}, {1, math.MaxInt, math.MinInt, 0}} {
		x, ok := params.Perm(m, nums)
		if ok || !reflect.DeepEqual(x, T{}) || params.Holds(api.PermParams, nums, m, m) {
			t.Errorf("%v: %v", nums, x)
		}
	}
	if x, ok := params.Perm(module(t, "fn f(): int { return f(); }"), []int{0}); !ok || !term.Same(x, module(t, "fn f(): int { return f(); }")) {
		t.Error("no parameters", x)
	}
}

func TestConditions(t *testing.T) {
	for _, c := range []struct {
		call       string
		perm, drop bool
	}{
		{"f(1, 2)", true, true}, {"f(1, k())", false, false}, {"f(k(), 2)", false, true}, {"f(read, g)", false, true}, {"f(g, 1 / g)", false, false}, {"f(f(1, 2), 3)", false, true}, {"f(1, f(1, 2))", false, false}, {"1", true, true}, {"f(1, 2) + f(k(), 3) + f(2, [g, 2][0])", false, false}, {"k()", true, true},
	} {
		m := module(t, "fn f(a: int, b: int): int { return a; } fn k(): int { return 1; } var g: int; fn main(): int { return "+c.call+"; }")
		_, ok := params.Perm(m, []int{0, 1, 0})
		x, _, ok2 := params.Drop(m, []int{0, 1})
		if ok != c.perm || ok2 != c.drop || ok2 && (!right.Right(x) || !params.Holds(api.DropParam, []int{0, 1}, m, x)) {
			t.Errorf("%q: %v %v", c.call, ok, ok2)
		}
	}
	shown := module(t, "pub fn f(a: int, b: int): int { return a; }")
	if _, ok := params.Perm(shown, []int{0, 1, 0}); ok {
		t.Error("a public function")
	}
	if _, _, ok := params.Drop(shown, []int{0, 1}); ok {
		t.Error("a public function")
	}
}

func TestDrop(t *testing.T) {
	m := module(t, "var g: int; const t = true; fn f(a: int, b: bool, c: int): int { let x = a; { let y = c; for i = y to 3 { print i + a + c; x = c; } } if c > 1 { return 5; } return f(f(1, !t, 2), t && g > 1, c + 1) + x; } pub fn main(): int { let z = f(5, g == 1, 1); return z + f(z, t, z); }")
	want := module(t, "var g: int; const t = true; fn f(a: int, c: int): int { let x = a; { let y = c; for i = y to 3 { print i + a + c; x = c; } } if c > 1 { return 5; } return f(f(1, 2), c + 1) + x; } pub fn main(): int { let z = f(5, 1); return z + f(z, z); }")
	kept := term.Bare(m)
	x, n, ok := params.Drop(m, []int{2, 1})
	if !ok || n != 2+5+3+1 || !term.Same(x, want) || !term.Same(m, kept) {
		t.Error(x, n)
	}
	a, _ := exec.Run(m, 3, nil, 9000)
	b, _ := exec.Run(x, 3, nil, 9000)
	if a.Kind != api.RunDone || b.Kind != api.RunDone || a.N != b.N || !slices.Equal(a.Trace, b.Trace) || b.Used >= a.Used {
		t.Error(a, b)
	}
	for _, nums := range [][]int{nil, {2}, {2, 0}, {2, 2}, {2, 3}, {2, -1}, {2, 1, 1}, {0, 0}, {3, 0}, {-1, 0}, {9, 1}, {2, math.MaxInt}, {math.MinInt, 1}} {
		x, n, ok := params.Drop(m, nums)
		if ok || n != 0 || !reflect.DeepEqual(x, T{}) || params.Holds(api.DropParam, nums, m, m) {
			t.Errorf("%v: %v", nums, x)
		}
	}
	if params.Holds(api.PermParams, []int{2, 1}, m, x) || !params.Holds(api.DropParam, []int{2, 1}, m, x) || params.Holds(api.DropParam, []int{2, 1}, m, m) || params.Holds(0, []int{2, 1}, m, x) {
		t.Error("Holds")
	}
	m = module(t, "fn f(a: int): int { return 1; } fn g(): int { return f(1 + 2); }")
	if x, n, ok := params.Drop(m, []int{0, 0}); !ok || n != 3 || !term.Same(x, module(t, "fn f(): int { return 1; } fn g(): int { return f(); }")) {
		t.Error("the only parameter", x, n)
	}
}

// TestHandMade: modules that no text is read as.
func TestHandMade(t *testing.T) {
	num := T{K: api.KNum, N: 1}
	fn := T{K: api.KFn, L: []T{{K: api.KParams, L: []T{{K: api.KPart}, {K: api.KPart, N: 7}}}, {K: api.KInt}, {K: api.KBlock}}}
	of := func(l ...T) T { return T{K: api.KModule, L: l} }
	for i, m := range []T{of(fn, T{K: api.KCall, L: []T{num}}), of(fn, T{K: api.KCall, L: []T{num, num, num}}), of(fn, T{K: api.KCall}), of(T{K: api.KFn, N: 2, L: fn.L}), of(T{K: api.KVar, L: fn.L}), of(T{K: api.KFn, L: fn.L[:2]}), of(T{K: api.KFn, L: []T{{K: api.KBlock, L: fn.L[0].L}, fn.L[1], fn.L[2]}}), of(T{K: api.KFn, L: []T{fn.L[0], fn.L[1], {K: api.KIf}}}), {K: api.KBlock, L: []T{fn}}, {}} {
		if _, ok := params.Perm(m, []int{0, 1, 0}); ok {
			t.Errorf("Perm of %d", i)
		}
		if _, _, ok := params.Drop(m, []int{0, 1}); ok {
			t.Errorf("Drop of %d", i)
		}
	}
	m := of(fn, T{K: api.KCall, N: 5}, T{K: api.KVar, L: []T{{K: api.KCall, L: []T{num, {K: api.KNum, N: 2}}}}})
	x, ok := params.Perm(m, []int{0, 1, 0})
	if !ok || x.L[0].L[0].L[0].N != 7 || x.L[2].L[0].L[0].N != 2 || m.L[2].L[0].L[0].N != 1 {
		t.Error("wherever calls stand", x)
	}
	wide := T{K: api.KFn, L: []T{{K: api.KParams, L: make([]T, 9000)}, {K: api.KInt}, {K: api.KBlock, L: []T{{K: api.KLocal}, {K: api.KLocal, N: 8999}, {K: api.KLocal, N: 9000}, {K: api.KLocal, N: -1}}}}}
	nums := []int{0}
	for i := range 9000 {
		nums = append(nums, 8999-i)
	}
	x, ok = params.Perm(of(wide), nums)
	if !ok || x.L[0].L[2].L[0].N != 8999 || x.L[0].L[2].L[1].N != 0 || x.L[0].L[2].L[2].N != 9000 || x.L[0].L[2].L[3].N != -1 {
		t.Error("many parameters")
	}
}
