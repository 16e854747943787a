package effect_test

import (
	"math"
	"reflect"
	"slices"
	"strconv"
	"testing"

	"notary/api"
	"notary/effect"
	"notary/exec"
	"notary/right"
	"notary/term"
)

func module(t *testing.T, text string) api.Term {
	t.Helper()
	_, m, at, e := right.Read(text)
	if e != api.OK {
		t.Fatalf("%q: %d %d", text, at, e)
	}
	return m
}

const globals = "var g: int; var h: [2]int; var r: R; rec R { x: int; y: [2]int; } const c = 3; "

const (
	traps  = api.EffTraps
	loops  = api.EffLoops
	prints = api.EffPrints
	input  = api.EffInput
)

var cases = []struct {
	body          string
	reads, writes []int
	flags         int
}{
	{"", nil, nil, 0}, {"return c;", nil, nil, 0}, {"return g;", []int{0}, nil, 0}, {"g = 1;", nil, []int{0}, 0}, {"g = g;", []int{0}, []int{0}, 0}, {"g = h[0] + g + r.x + h[1];", []int{0, 1, 2}, []int{0}, traps}, {"h[1] = 2;", []int{1}, []int{1}, traps}, {"h[g] = 2;", []int{0, 1}, []int{1}, traps}, {"h = [1, 2];", nil, []int{1}, 0}, {"r.x = 1;", []int{2}, []int{2}, 0}, {"r.y[h[0]] = g;", []int{0, 1, 2}, []int{2}, traps}, {"let z = [1, 2]; z[g] = 1;", []int{0}, nil, traps}, {"let z = 1; z = g;", []int{0}, nil, 0},
	{"return 1 / 2;", nil, nil, 0}, {"return 1 / 0;", nil, nil, traps}, {"return 1 % c;", nil, nil, traps}, {"return 1 % 7;", nil, nil, 0}, {"return 1 / -1;", nil, nil, traps}, {"return 1 + 0;", nil, nil, 0}, {"return [1][0];", nil, nil, traps}, {"return read;", nil, nil, traps | input}, {"print 1;", nil, nil, prints}, {"while false { }", nil, nil, loops}, {"for i = 1 to 2 { }", nil, nil, loops}, {"if g == 1 { g = 1; } else { print 2; }", []int{0}, []int{0}, prints},
	{"do p();", nil, []int{0}, prints}, {"do q();", []int{1}, []int{0}, prints | traps}, {"do self();", nil, nil, loops}, {"do even(1);", nil, []int{2}, loops}, {"do calls();", nil, []int{2}, loops}, {"return q() + g;", []int{0, 1}, []int{0}, prints | traps}, {"let x: R; x.y[0] = self(); ", nil, nil, traps | loops}, {"do pure(pure(p()));", nil, []int{0}, prints},
}

const functions = " fn p(): int { print 1; g = 1; } fn q(): int { do p(); return h[0]; } fn self(): int { return self(); } fn even(k: int): int { if k == 0 { return 1; } return odd(k - 1); } fn odd(k: int): int { r = new R(1, [2, 3]); return even(k - 1); } fn calls(): int { return odd(1); } fn pure(k: int): int { return k; }"

func TestOf(t *testing.T) {
	for _, c := range cases {
		m := module(t, globals+"fn main(): int { "+c.body+" }"+functions)
		want := api.Effect{Reads: c.reads, Writes: c.writes, Flags: c.flags}
		for _, x := range []api.Term{m.L[5].L[2], {K: api.KCall, N: 5}} {
			if e := effect.Of(m, x); !slices.Equal(e.Reads, want.Reads) || !slices.Equal(e.Writes, want.Writes) || e.Flags != want.Flags {
				t.Errorf("%q: %v", c.body, e)
			}
		}
	}
}

func TestExample(t *testing.T) {
	m := module(t, "var g: [2]int; fn f(): int { g[1] = 2; return f(); }")
	want := api.Effect{Reads: []int{0}, Writes: []int{0}, Flags: traps | loops}
	if e := effect.Of(m, m.L[1].L[2]); !reflect.DeepEqual(e, want) {
		t.Error(e)
	}
}

func TestBound(t *testing.T) {
	for _, c := range []struct {
		body string
		n    int
		ok   bool
	}{
		{"", 1, true}, {"return c;", 3, true}, {"do p();", 9, true}, {"do pure(pure(1));", 11, true}, {"do self();", 0, false}, {"while false { }", 0, false}, {"do calls();", 0, false}, {"if true { print 1; } else { print 2; }", 9, true},
	} {
		m := module(t, globals+"fn main(): int { "+c.body+" }"+functions)
		n, ok := effect.Bound(m, m.L[5].L[2])
		if n != c.n || ok != c.ok {
			t.Errorf("%q: %d %v", c.body, n, ok)
		}
		if k, ok2 := effect.Bound(m, api.Term{K: api.KCall, N: 5}); ok2 != ok || ok && k != n+1 {
			t.Errorf("%q called: %d %v", c.body, k, ok2)
		}
	}
}

// TestGreatBounds: functions that call the next one twice need twice as much, and a little more.
func TestGreatBounds(t *testing.T) {
	text := "fn f0(): int { return 1; }"
	for i := 1; i < 64; i++ {
		f := "f" + strconv.Itoa(i-1) + "()"
		text += " fn f" + strconv.Itoa(i) + "(): int { return " + f + " + " + f + "; }"
	}
	m := module(t, text)
	want := 3
	for i := range 64 {
		n, ok := effect.Bound(m, m.L[i].L[2])
		if want <= api.MaxFuel && (n != want || !ok) || want > api.MaxFuel && (n != 0 || ok) {
			t.Errorf("%d: %d %v, not %d", i, n, ok, want)
		}
		if want <= api.MaxFuel {
			want = 5 + 2*want
		}
	}
	list := api.Term{K: api.KBlock, L: make([]api.Term, api.MaxFuel)}
	if _, ok := effect.Bound(m, list); ok {
		t.Error("one above MaxFuel")
	}
	list.L = list.L[1:]
	if n, ok := effect.Bound(m, list); !ok || n != api.MaxFuel {
		t.Error("just MaxFuel", n)
	}
}

// TestWhatFollows: what runs keeps to its effect, and ends within its bound.
func TestWhatFollows(t *testing.T) {
	for _, c := range cases {
		m := module(t, globals+"fn main(): int { "+c.body+" }"+functions)
		e := effect.Of(m, m.L[5].L[2])
		n, bounded := effect.Bound(m, m.L[5].L[2])
		fuel := 200
		if bounded {
			fuel = n
		}
		s := exec.Start(m, []int64{5, 6}, fuel)
		_, out, err := exec.Call(m, s, 5, nil)
		if err != api.OK || bounded && out.Kind == api.RunDry {
			t.Errorf("%q does not end within %d", c.body, n)
		}
		if e.Flags&prints == 0 && len(out.Trace) > 0 || e.Flags&input == 0 && out.At > 0 || e.Flags&traps == 0 && out.Kind == api.RunTrap {
			t.Errorf("%q: %v", c.body, out)
		}
		for i := range out.Globals {
			if !slices.Contains(e.Writes, i) && !reflect.DeepEqual(out.Globals[i], s.Globals[i]) {
				t.Errorf("%q writes %d", c.body, i)
			}
		}
	}
}

// TestUnread: what a function comes to, and prints, hangs on no global that it does not read.
func TestUnread(t *testing.T) {
	for _, c := range cases {
		m := module(t, globals+"fn main(): int { "+c.body+" }"+functions)
		e := effect.Of(m, m.L[5].L[2])
		s := exec.Start(m, []int64{5, 6}, 200)
		other := exec.Start(m, []int64{5, 6}, 200)
		for i, v := range []api.Value{{N: 7}, {L: []api.Value{{N: 3}, {N: 9}}}, {L: []api.Value{{N: 1}, {L: []api.Value{{N: 2}, {N: 4}}}}}} {
			if !slices.Contains(e.Reads, i) {
				other.Globals[i] = v
			}
		}
		v, a, err := exec.Call(m, s, 5, nil)
		w, b, err2 := exec.Call(m, other, 5, nil)
		if err != api.OK || err2 != api.OK || !reflect.DeepEqual(v, w) || !slices.Equal(a.Trace, b.Trace) || a.Kind != b.Kind || a.N != b.N || a.Fuel != b.Fuel {
			t.Errorf("%q: %v %v, %v %v", c.body, v, a, w, b)
		}
		for _, i := range e.Writes {
			if !slices.Contains(e.Reads, i) && a.Kind == 0 && !reflect.DeepEqual(a.Globals[i], b.Globals[i]) && !reflect.DeepEqual(a.Globals[i], s.Globals[i]) {
				t.Errorf("%q writes %v and %v", c.body, a.Globals[i], b.Globals[i])
			}
		}
	}
}

func TestMeet(t *testing.T) {
	for _, c := range []struct {
		a, b []int
		meet bool
	}{
		{nil, nil, false}, {[]int{1}, nil, false}, {nil, []int{1}, false}, {[]int{1, 2}, []int{3, 2}, true}, {[]int{1, 2}, []int{3, 4}, false}, {[]int{9, 1}, []int{1}, true}, {[]int{-1}, []int{-1}, true}, {[]int{math.MaxInt, 0}, []int{math.MinInt, math.MaxInt}, true}, {[]int{5, 1}, []int{3, 7, 5}, true}, {[]int{0}, []int{1}, false},
	} {
		if effect.Meet(c.a, c.b) != c.meet || effect.Meet(c.b, c.a) != c.meet {
			t.Errorf("%v and %v", c.a, c.b)
		}
	}
}

func TestWhateverModuleEnds(t *testing.T) {
	for k := -1; k <= api.KModule+1; k++ {
		for _, n := range []int64{-1, 0, 1, math.MaxInt64, math.MinInt64} {
			x := api.Term{K: k, N: n, L: []api.Term{{K: api.KCall, N: n}, {K: k}, {K: k, L: []api.Term{{K: api.KCall}}}}}
			m := api.Term{K: k, L: []api.Term{{K: api.KFn, L: []api.Term{{}, {}, x}}, {K: api.KFn, L: []api.Term{x}}, x}}
			for _, p := range term.Paths(m) {
				y, _ := term.At(m, p)
				effect.Of(m, y)
				effect.Bound(m, y)
			}
		}
	}
}
