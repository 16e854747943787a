package quiet_test

import (
	"math"
	"reflect"
	"slices"
	"testing"

	"notary/api"
	"notary/exec"
	"notary/quiet"
	"notary/right"
	"notary/term"
	"notary/value"
)

type T = api.Term

// values reads a module in which main prints or does so many expressions, one a statement, behind its globals and functions.
func values(t *testing.T, l ...string) (T, []T) {
	t.Helper()
	text := "var g: int; var h: [2]int; var r: R; rec R { x: int; y: bool; } const c = 3; fn writes(): int { g = 7; return 1; } fn prints(a: int): int { print a; return a; } fn none(): int { return 4; } fn main(a: int, b: bool): int {"
	for _, e := range l {
		text += " let z = " + e + ";"
	}
	_, m, at, e := right.Read(text + " }")
	if e != api.OK {
		t.Fatalf("%q: %d %d", text, at, e)
	}
	var out []T
	for i, s := range m.L[8].L[2].L {
		x := s.L[0]
		out = append(out, lower(x, int64(i)))
	}
	return m, out
}

// lower is x without the locals that stand between it and the parameters.
func lower(x T, by int64) T {
	if x.K == api.KLocal {
		x.N -= by
	}
	x.L = slices.Clone(x.L)
	for i := range x.L {
		x.L[i] = lower(x.L[i], by)
	}
	return x
}

var (
	quietOnes = []string{"1", "true", "a", "c", "g", "-a", "!b", "a + g", "a * (a - 1)", "b && !b", "a < g", "r.x", "[a, g]", "new R(a, b)", "a / 2 + g", "a % 7", "h", "new R(a / 1, r.y).x", "[[1], [2]]"}
	otherOnes = []string{"a / a", "a / 0", "a % c", "a / -1", "h[0]", "none()", "read", "[read]", "a + none()", "1 - (2 / (3 - 3))", "[1, 2][0]", "new R(writes(), b)", "new R(1, true).y && none() > 1", "prints(1)"}
)

func TestQuiet(t *testing.T) {
	_, l := values(t, append(slices.Clone(quietOnes), otherOnes...)...)
	for i, x := range l {
		if quiet.Quiet(x) != (i < len(quietOnes)) {
			t.Errorf("%d: %v", i, x)
		}
	}
	for k := -1; k <= api.KModule+1; k++ {
		want := slices.Contains([]int{api.KNum, api.KTruth, api.KLocal, api.KConst, api.KGlobal, api.KUn, api.KField, api.KList, api.KMake, api.KBin}, k)
		if quiet.Quiet(T{K: k}) != want || quiet.Quiet(T{K: api.KList, L: []T{{K: api.KNum}, {K: k}}}) != want || quiet.Quiet(T{K: k, L: []T{{K: api.KNum}, {K: api.KList, L: []T{{K: api.KRead}}}}}) {
			t.Errorf("the kind %d", k)
		}
	}
	for _, x := range []T{{K: api.KBin, N: api.OpDiv}, {K: api.KBin, N: api.OpRem, L: []T{{K: api.KNum, N: 1}}}, {K: api.KBin, N: api.OpDiv, L: []T{{K: api.KNum}, {K: api.KTruth, N: 1}}}} {
		if quiet.Quiet(x) {
			t.Errorf("%v", x)
		}
	}
}

func TestReads(t *testing.T) {
	_, l := values(t, "a", "g", "a / 2 + g", "[r.x, g, h[g], g]", "none()", "h[writes()]", "g + g")
	for i, want := range [][]int{nil, {0}, {0}, {0, 1, 2}, nil, {1}, {0}} {
		if got := quiet.Reads(l[i]); !slices.Equal(got, want) {
			t.Errorf("%v: %v", l[i], got)
		}
	}
	x := T{K: api.KSet, L: []T{{K: api.KGlobal, N: 9}, {K: api.KGlobal, N: -4, L: []T{{K: api.KGlobal, N: 2}}}, {K: api.KGlobal, N: 9}}}
	if got := quiet.Reads(x); !slices.Equal(got, []int{-4, 2, 9}) {
		t.Error(got)
	}
	room := append(make([]T, 0, 9), T{K: api.KGlobal, L: []T{{}, {}}}, T{})
	quiet.Reads(T{L: room})
	quiet.Quiet(T{K: api.KList, L: room})
	if !reflect.DeepEqual(room[:9][2:], make([]T, 7)) {
		t.Error("the room behind the end was written")
	}
}

func TestApart(t *testing.T) {
	for _, c := range []struct {
		a, b  string
		apart bool
	}{
		{"a", "1", true}, {"g", "g", true}, {"g", "none()", true}, {"g", "writes()", false}, {"h", "writes()", true}, {"[r.x, g]", "writes() + 1", false}, {"a", "read", true}, {"g", "read", true}, {"read", "read", false}, {"none()", "none()", false}, {"none()", "a / 2", true}, {"a / a", "g", true}, {"a / a", "a / a", false}, {"prints(1)", "a", true}, {"prints(1)", "prints(2)", false}, {"h[0]", "writes()", false}, {"c", "writes()", true},
	} {
		m, l := values(t, c.a, c.b)
		if quiet.Apart(m, l[0], l[1]) != c.apart || quiet.Apart(m, l[1], l[0]) != c.apart {
			t.Errorf("%q and %q", c.a, c.b)
		}
	}
}

// TestWhatFollows: quiet expressions change nothing, and end within their sizes; of terms that are apart the order does not matter.
func TestWhatFollows(t *testing.T) {
	m, l := values(t, append(slices.Clone(quietOnes), otherOnes...)...)
	types := []T{{K: api.KInt}, {K: api.KBool}}
	s := exec.Start(m, []int64{1, 2, 3}, 50)
	s.Locals = []api.Value{{N: 5}, {N: 1}}
	run := func(s api.State, x T) (api.Value, api.State) {
		v, out, e := exec.Eval(m, types, s, x)
		if e != api.OK {
			t.Fatalf("%v: %d", x, e)
		}
		return v, out
	}
	for i, x := range l {
		if i < len(quietOnes) {
			small := s
			small.Fuel = term.Size(x)
			_, out := run(small, x)
			if out.Kind != 0 || !reflect.DeepEqual(out.Globals, s.Globals) || len(out.Trace) > 0 || out.At != 0 {
				t.Errorf("%v: %v", x, out)
			}
		}
		for _, y := range l {
			if !quiet.Apart(m, x, y) {
				continue
			}
			v1, s1 := run(s, x)
			if s1.Kind != 0 {
				continue
			}
			w1, s1 := run(s1, y)
			w2, s2 := run(s, y)
			if s1.Kind != 0 || s2.Kind != 0 {
				continue
			}
			v2, s2 := run(s2, x)
			if !value.Same(v1, v2) || !value.Same(w1, w2) || !reflect.DeepEqual(s1, s2) {
				t.Errorf("%v and %v: the order matters", x, y)
			}
		}
	}
}

func TestWhateverModuleEnds(t *testing.T) {
	for _, n := range []int64{-1, 0, math.MaxInt64, math.MinInt64} {
		x := T{K: api.KCall, N: n, L: []T{{K: api.KGlobal, N: n}}}
		quiet.Apart(T{K: api.KModule, L: []T{{K: api.KFn, L: []T{x, x, x}}}}, x, x.L[0])
		quiet.Apart(T{}, x, x)
	}
}
