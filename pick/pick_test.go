package pick_test

import (
	"math"
	"slices"
	"strings"
	"testing"

	"notary/api"
	"notary/pick"
	"notary/term"
	"notary/unit"
)

type T = api.Term

func parse(t *testing.T, text string) T {
	t.Helper()
	m, at, e := unit.Parse(text)
	if e != api.OK {
		t.Fatalf("%q: %d %d", text, at, e)
	}
	return m
}

const text = "const c = 5; fn f(a: [2]int): int { a[0] = a[0] + 1; a[a[1]].x.y = (c); let z = f([1, a[2]][c]) * -3; if z < 1 { return z; } else { print (z + 2); for i = z to f(a) { while true { { do f(a); } } } } return @e(z)[1].q; }"

func TestExample(t *testing.T) {
	m := parse(t, "fn f(a: int): int { a[0] = a + 1; }")
	for _, c := range []struct {
		from, to int
		path     []int
		ok       bool
	}{{27, 32, []int{0, 2, 0, 1}, true}, {20, 21, nil, false}, {20, 24, nil, false}, {22, 23, []int{0, 2, 0, 0, 1}, true}, {27, 28, []int{0, 2, 0, 1, 0}, true}, {27, 31, nil, false}, {20, 33, nil, false}, {0, 35, nil, false}, {8, 11, nil, false}} {
		p, ok := pick.Value(m, c.from, c.to)
		if ok != c.ok || !slices.Equal(p, c.path) {
			t.Errorf("%d to %d: %v %v", c.from, c.to, p, ok)
		}
	}
}

// values is all values of a module, by the words of the chapter, from the top down.
func values(x T, path []int, inBlock, isPlace bool) [][]int {
	var out [][]int
	if inBlock && !isPlace && x.K >= api.KNum && x.K <= api.KName {
		out = append(out, path)
	}
	for i, p := range x.L {
		inner := inBlock || len(path) == 1 && x.K == api.KFn && i == 2
		place := i == 0 && (x.K == api.KSet || isPlace && (x.K == api.KIndex || x.K == api.KField))
		out = append(out, values(p, append(slices.Clone(path), i), inner, place)...)
	}
	return out
}

func TestValue(t *testing.T) {
	for _, text := range []string{text, "const c = 5; fn f(a: int): int { -a = 1; f(a)[-a].x = [a.b][a]; (a + 1)[2] = a[1][2]; @g(a) = new R(a[0], true); } rec R { x: int; } var v: [3]int;", "fn g(): int { 1 = 2; } fn f(a: int): int { if a[0] == 1 { a = a; } else { a.b.c = a.b.c; } for i = a[1] to a { a[i][a[i]] = i; } }"} {
		everyValue(t, text)
	}
	m := parse(t, text)
	for _, c := range [][2]int{{-1, 3}, {3, -1}, {math.MinInt, math.MaxInt}, {0, 0}, {5, 2}} {
		if p, ok := pick.Value(m, c[0], c[1]); ok || len(p) != 0 {
			t.Errorf("%v: %v", c, p)
		}
	}
	two := parse(t, "fn f(): int { return 1; }")
	two.L[0].L[2].L = append(two.L[0].L[2].L, two.L[0].L[2].L[0])
	if p, ok := pick.Value(two, 21, 22); !ok || !slices.Equal(p, []int{0, 2, 0, 0}) {
		t.Error("of several the first one", p)
	}
}

// everyValue looks for a value at each two places of a text.
func everyValue(t *testing.T, text string) {
	t.Helper()
	m := parse(t, text)
	l := values(m, nil, false, false)
	if len(l) < 10 {
		t.Fatal(len(l))
	}
	for from := range len(text) + 1 {
		for to := from; to <= len(text); to++ {
			i := slices.IndexFunc(l, func(p []int) bool { x, _ := term.At(m, p); return x.From == from && x.To == to })
			p, ok := pick.Value(m, from, to)
			if ok != (i >= 0) || ok && !slices.Equal(p, l[i]) || !ok && len(p) != 0 {
				t.Errorf("%q: %v %v", text[from:to], p, ok)
			}
		}
	}
}

func TestAround(t *testing.T) {
	m := parse(t, text)
	for kind := -1; kind <= api.KModule+1; kind++ {
		for place := -2; place < len(text)+2; place++ {
			var want []int
			found := false
			for _, p := range term.Paths(m) {
				if x, _ := term.At(m, p); x.K == kind && x.From <= place && place < x.To && (!found || len(p) > len(want)) {
					want, found = p, true
				}
			}
			if p, ok := pick.Around(m, place, kind); ok != found || !slices.Equal(p, want) {
				t.Errorf("%d around %d: %v %v", kind, place, p, ok)
			}
		}
	}
	inner := strings.Index(text, "do f")
	for place, want := range map[int][]int{inner: {1, 2, 3, 2, 1, 2, 0, 1, 0}, inner + 8: {1, 2, 3, 2, 1, 2, 0, 1, 0}, inner - 2: {1, 2, 3, 2, 1, 2, 0, 1, 0}, inner - 3: {1, 2, 3, 2, 1, 2, 0, 1}} {
		if p, ok := pick.Around(m, place, api.KBlock); !ok || !slices.Equal(p, want) {
			t.Errorf("the block around %d: %v", place, p)
		}
	}
	for _, place := range []int{math.MinInt, math.MaxInt} {
		if _, ok := pick.Around(m, place, api.KModule); ok {
			t.Errorf("around %d", place)
		}
	}
	x := T{K: api.KIf, To: 9, L: []T{{K: api.KLet, To: 9}, {K: api.KLet, To: 9}}}
	if p, _ := pick.Around(x, 3, api.KLet); !slices.Equal(p, []int{0}) {
		t.Error("of those that are as long the first one", p)
	}
}

func TestBlock(t *testing.T) {
	m := parse(t, text)
	for _, p := range term.Paths(m) {
		var want []int
		part, found := 0, false
		for n := range p {
			if x, _ := term.At(m, p[:n]); x.K == api.KBlock {
				want, part, found = p[:n], p[n], true
			}
		}
		kept := slices.Clone(p)
		b, i, ok := pick.Block(m, p)
		if ok != found || i != part || !slices.Equal(b, want) {
			t.Errorf("%v: %v %d %v", p, b, i, ok)
		}
		if len(b) > 0 {
			b[0] = 99
		}
		if !slices.Equal(p, kept) {
			t.Errorf("%v: memory is shared", p)
		}
	}
	for _, p := range [][]int{{9}, {1, 2, 99}, {1, 2, 0, -1}, {-1}, {1, 2, math.MaxInt}} {
		if b, i, ok := pick.Block(m, p); ok || i != 0 || len(b) != 0 {
			t.Errorf("%v leads nowhere", p)
		}
	}
	if b, i, ok := pick.Block(T{K: api.KBlock, L: []T{{}}}, []int{0}); !ok || i != 0 || len(b) != 0 {
		t.Error("the whole is a block")
	}
}

func TestTrim(t *testing.T) {
	s := " \t\n\r a b \r\n\t "
	for _, c := range [][4]int{{0, 13, 5, 8}, {5, 8, 5, 8}, {4, 9, 5, 8}, {0, 5, 5, 5}, {0, 0, 0, 0}, {1, 4, 4, 4}, {6, 7, 7, 7}, {5, 13, 5, 8}, {8, 13, 13, 13}, {6, 8, 7, 8}, {-1, 3, -1, 3}, {3, 2, 3, 2}, {0, 14, 0, 14}, {14, 14, 14, 14}, {13, 13, 13, 13}, {math.MinInt, math.MaxInt, math.MinInt, math.MaxInt}} {
		if from, to := pick.Trim(s, c[0], c[1]); from != c[2] || to != c[3] {
			t.Errorf("%v: %d %d", c, from, to)
		}
	}
	if from, to := pick.Trim("\va\f", 0, 3); from != 0 || to != 3 {
		t.Error("other bytes are no blanks", from, to)
	}
	for a := range len(s) + 1 {
		for b := a; b <= len(s); b++ {
			from, to := pick.Trim(s, a, b)
			if strings.Trim(s[a:b], " \t\r\n") != s[from:to] || from < a || to > b {
				t.Errorf("%d to %d: %d to %d", a, b, from, to)
			}
		}
	}
}
