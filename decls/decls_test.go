package decls_test

import (
	"math"
	"reflect"
	"slices"
	"testing"

	"notary/api"
	"notary/decls"
	"notary/exec"
	"notary/right"
	"notary/term"
)

type T = api.Term

const full = "rec R { x: int; s: S; } var g: R; const c = 5; fn help(a: R, k: int): S { if k == 0 { g.s.y[1] = c; return a.s; } return help(new R(a.x, new S([c, g.x])), k - 1); } pub fn f(): int { g.x = 4; let q: [2]R; return help(q[0], 3).y[0] + unused; } rec S { y: [2]int; } var unused: int; fn lonely(): int { return lonely(); } fn main(): int { return f() + help(g, 1).y[1]; }"

func module(t *testing.T, text string) T {
	t.Helper()
	_, m, at, e := right.Read(text)
	if e != api.OK {
		t.Fatalf("%q: %d %d", text[at:], at, e)
	}
	return m
}

func orders(n int) [][]int {
	l := [][]int{nil}
	for i := range n {
		var next [][]int
		for _, x := range l {
			for j := range len(x) + 1 {
				next = append(next, slices.Insert(slices.Clone(x), j, i))
			}
		}
		l = next
	}
	return l
}

func TestExample(t *testing.T) {
	m := module(t, "var a: int; fn f(): int { return a; }")
	x, ok := decls.Perm(m, []int{1, 0})
	if !ok || !term.Same(x, module(t, "fn f(): int { return a; } var a: int;")) {
		t.Error(x)
	}
}

func TestPerm(t *testing.T) {
	parts := []string{"rec R { x: int; s: S; } ", "rec S { y: [2]int; z: bool; } ", "var g: R; ", "const c = 5; ", "pub fn f(a: int): int { return f(g.s.y[c]) + c; } ", "fn k(r: R, s: S): S { r.s = new S([r.x, c], s.z); return k(new R(1, s), r.s); } "}
	all := func(l []int) string {
		s := ""
		for _, i := range l {
			s += parts[i]
		}
		return s
	}
	first := []int{0, 1, 2, 3, 4, 5}
	m := module(t, all(first))
	for _, nums := range orders(6) {
		x, ok := decls.Perm(m, nums)
		if !ok || !term.Same(x, module(t, all(nums))) || !right.Right(x) || !decls.Holds(api.PermDecls, nums, m, x) {
			t.Fatalf("%v: %v", nums, x)
		}
		if !slices.Equal(nums, first) && decls.Holds(api.PermDecls, first, m, x) {
			t.Errorf("%v is nothing", nums)
		}
		back := make([]int, 6)
		for i, n := range nums {
			back[n] = i
		}
		if y, _ := decls.Perm(x, back); !reflect.DeepEqual(y, m) {
			t.Fatalf("%v does not come back", nums)
		}
		var pairs []api.Pair
		for i := range 6 {
			pairs = append(pairs, api.Pair{A: i, B: back[i]})
		}
		if p := decls.Pairs(api.PermDecls, nums, 6); !slices.Equal(p, pairs) {
			t.Errorf("%v: %v", nums, p)
		}
	}
	for _, nums := range [][]int{nil, {0}, {0, 1, 2, 3, 4}, {0, 1, 2, 3, 4, 4}, {0, 0, 2, 3, 4, 5}, {0, 1, 2, 3, 0, 5}, {5, 5, 5, 5, 5, 5}, {0, 1, 2, 3, 4, 6}, {-1, 0, 1, 2, 3, 4}, {0, 1, 2, 3, 4, 5, 6}, {0, 1, 2, 3, 4, math.MaxInt}, {0, 1, 2, 3, 4, math.MinInt}} {
		if x, ok := decls.Perm(m, nums); ok || !reflect.DeepEqual(x, T{}) || decls.Holds(api.PermDecls, nums, m, m) {
			t.Errorf("%v: %v", nums, x)
		}
	}
	if x, ok := decls.Perm(T{K: api.KModule}, nil); !ok || !term.Same(x, T{K: api.KModule}) {
		t.Error("an empty module")
	}
	for _, x := range []T{{}, {K: api.KBlock}, {K: api.KFn}} {
		if _, ok := decls.Perm(x, nil); ok {
			t.Errorf("%v", x)
		}
	}
}

func TestDrop(t *testing.T) {
	m := module(t, "const a = 1; var b: int; rec Q { x: int; } fn f(): int { return f() + k; } pub fn p(): int { return k; } var used: R; rec R { z: int; } const k = 2; fn last(q: R): int { return q.z + e(); } fn e(): int { return 1; } fn make(): int { let x = new R(1); return 2; }")
	for i, c := range []struct {
		ok   bool
		text string
	}{
		{true, "var b: int; rec Q { x: int; } fn f(): int { return f() + k; } pub fn p(): int { return k; } var used: R; rec R { z: int; } const k = 2; fn last(q: R): int { return q.z + e(); } fn e(): int { return 1; } fn make(): int { let x = new R(1); return 2; }"},
		{true, ""}, {true, ""}, {true, "const a = 1; var b: int; rec Q { x: int; } pub fn p(): int { return k; } var used: R; rec R { z: int; } const k = 2; fn last(q: R): int { return q.z + e(); } fn e(): int { return 1; } fn make(): int { let x = new R(1); return 2; }"}, {false, ""}, {true, ""}, {false, ""}, {false, ""}, {true, ""}, {false, ""}, {true, ""},
	} {
		x, ok := decls.Drop(m, i)
		if ok != c.ok || !ok && !reflect.DeepEqual(x, T{}) || ok && (len(x.L) != len(m.L)-1 || !right.Right(x)) || c.text != "" && !term.Same(x, module(t, c.text)) {
			t.Errorf("%d: %v %v", i, x, ok)
		}
		if decls.Holds(api.DropDecl, []int{i}, m, x) != ok || decls.Holds(api.DropDecl, nil, m, x) || decls.Holds(api.DropDecl, []int{i, i}, m, x) || decls.Holds(api.PermDecls, []int{i}, m, x) || decls.Holds(api.DropParam, []int{i}, m, x) || decls.Holds(api.DropDecl, []int{i}, m, m) {
			t.Errorf("%d: Holds", i)
		}
	}
	for _, i := range []int{-1, 11, math.MaxInt, math.MinInt} {
		if x, ok := decls.Drop(m, i); ok || !reflect.DeepEqual(x, T{}) || decls.Holds(api.DropDecl, []int{i}, m, m) {
			t.Errorf("%d: %v", i, x)
		}
	}
	if _, ok := decls.Drop(T{K: api.KModule, L: []T{{K: api.KVar, N: 1}, {K: api.KFn, N: 2}}}, 0); !ok {
		t.Error("what is no function may go, whatever its number")
	}
	if _, ok := decls.Drop(T{K: api.KModule, L: []T{{K: api.KVar, N: 1}, {K: api.KFn, N: 2}}}, 1); !ok {
		t.Error("a function of another number")
	}
	if _, ok := decls.Drop(T{K: api.KBlock, L: []T{{}}}, 0); ok {
		t.Error("what is no module")
	}
}

// TestFieldOnly: a record that is named by a field's number alone is named.
func TestFieldOnly(t *testing.T) {
	field := func(n int64) T {
		return T{K: api.KModule, L: []T{{K: api.KRecord}, {K: api.KRecord}, {K: api.KField, N: n, L: []T{{K: api.KNum, N: 9}}}}}
	}
	for n, want := range map[int64][2]bool{0: {false, true}, 63: {false, true}, 64: {true, false}, 127: {true, false}, 128: {true, true}, -1: {true, true}, -64: {true, true}} {
		for i := range 2 {
			if x, ok := decls.Drop(field(n), i); ok != want[i] || ok && n == 64 && x.L[1].N != 0 || ok && n == 127 && x.L[1].N != 63 || ok && n < 0 && x.L[1].N != n {
				t.Errorf("field %d, without %d: %v %v", n, i, x, ok)
			}
		}
	}
	x, ok := decls.Perm(field(70), []int{2, 1, 0})
	if !ok || x.L[0].N != 70 || x.L[0].L[0].N != 9 {
		t.Error(x)
	}
	x, _ = decls.Perm(field(math.MaxInt64), []int{2, 1, 0})
	y, _ := decls.Perm(field(6), []int{2, 1, 0})
	if x.L[0].N != math.MaxInt64 || y.L[0].N != 134 {
		t.Error("places that never were stay", x, y)
	}
	for _, k := range []int{api.KConst, api.KGlobal, api.KCall, api.KMake, api.KRec} {
		m := T{K: api.KModule, L: []T{{}, {}, {K: api.KFn, L: []T{{K: k, N: 1}, {K: k, N: 77}, {K: k, N: -1}}}}}
		_, ok := decls.Drop(m, 1)
		x, ok2 := decls.Drop(m, 0)
		if ok || !ok2 || x.L[1].L[0].N != 0 || x.L[1].L[1].N != 77 || x.L[1].L[2].N != -1 || m.L[2].L[0].N != 1 {
			t.Errorf("the kind %d: %v", k, x)
		}
	}
}

func TestPairs(t *testing.T) {
	type P = []api.Pair
	for _, c := range []struct {
		rule int
		nums []int
		n    int
		want P
	}{
		{api.PermDecls, []int{2, 0, 1}, 3, P{{A: 0, B: 1}, {A: 1, B: 2}, {A: 2, B: 0}}}, {api.DropDecl, []int{1}, 3, P{{A: 0, B: 0}, {A: 2, B: 1}}}, {api.DropDecl, []int{0}, 3, P{{A: 1, B: 0}, {A: 2, B: 1}}}, {api.DropDecl, []int{2}, 3, P{{A: 0, B: 0}, {A: 1, B: 1}}}, {api.DropDecl, []int{0}, 1, nil}, {api.PermParams, []int{2, 0, 1}, 2, P{{A: 0, B: 0}, {A: 1, B: 1}}}, {api.AddComm, nil, 2, P{{A: 0, B: 0}, {A: 1, B: 1}}}, {0, nil, 1, P{{A: 0, B: 0}}}, {-7, nil, 0, nil}, {api.AddComm, nil, -1, nil}, {api.PermDecls, nil, 0, nil}, {api.AddComm, nil, math.MinInt, nil},
	} {
		if p := decls.Pairs(c.rule, c.nums, c.n); !slices.Equal(p, c.want) {
			t.Errorf("%v: %v", c, p)
		}
	}
	for _, nums := range [][]int{nil, {0, 0}, {5}, {-1}, {math.MaxInt, 0}, {math.MinInt}} {
		for _, n := range []int{-1, 0, 1, 2, math.MinInt} {
			decls.Pairs(api.PermDecls, nums, n)
			decls.Pairs(api.DropDecl, nums, n)
		}
	}
}

// TestSameRuns: what runs does the same, step by step.
func TestSameRuns(t *testing.T) {
	m := module(t, full)
	before, e := exec.Run(m, 8, nil, 500)
	if e != api.OK || before.Kind != api.RunDone {
		t.Fatal(before, e)
	}
	x, ok := decls.Drop(m, 7)
	for _, nums := range [][]int{{7, 6, 5, 4, 3, 2, 1, 0}, {3, 1, 4, 0, 5, 2, 6, 7}} {
		y, ok2 := decls.Perm(x, nums)
		after, e := exec.Run(y, slices.Index(nums, 7), nil, 500)
		if !ok || !ok2 || !right.Right(y) || e != api.OK || !reflect.DeepEqual(before, after) {
			t.Error(before, after)
		}
	}
}
