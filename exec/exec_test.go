package exec_test

import (
	"math"
	"reflect"
	"slices"
	"testing"

	"notary/api"
	"notary/exec"
	"notary/right"
	"notary/value"
)

type (
	T = api.Term
	V = api.Value
)

func module(t *testing.T, text string) T {
	t.Helper()
	_, m, at, e := right.Read(text)
	if e != api.OK {
		t.Fatalf("%q: %d %d", text, at, e)
	}
	return m
}

func n(x int64) V   { return V{N: x} }
func list(l ...V) V { return V{L: l} }
func num(x int64) T { return T{K: api.KNum, N: x} }
func loc(x int64) T { return T{K: api.KLocal, N: x} }

// rest is what the functions of TestRun use; main is ahead of it.
const rest = ` var g: int; var a: [3]int; var r: R; rec R { x: int; y: [2]bool; } const c = 7; const t = true;
fn inc(k: int): int { g = g + k; return g; } fn noisy(k: int): bool { print k; return k > 0; } fn silent(): int { } fn pair(): [2]bool { } fn rec_(k: int): int { if k == 0 { return 0; } return 1 + rec_(k - 1); } fn set(k: int): int { k = 5; return k; } fn early(): int { for i = 1 to 9 { while true { { let z = i; return z; } } } }`

var runs = []struct {
	body  string
	input []int64
	kind  int
	n     int64
	trace []int64
	used  int
}{
	{"print 1; return 1 / 0;", nil, api.RunTrap, api.TrapDiv, []int64{1}, 7},
	{"", nil, api.RunDone, 0, nil, 1},
	{"return 5;", nil, api.RunDone, 5, nil, 3},
	{"return -5;", nil, api.RunDone, -5, nil, 4},
	{"return c;", nil, api.RunDone, 7, nil, 3},
	{"print t; print !t; print false;", nil, api.RunDone, 0, []int64{1, 0, 0}, 8},
	{"return 2 + 3 * 4;", nil, api.RunDone, 14, nil, 7},
	{"return 7 % 0;", nil, api.RunTrap, api.TrapDiv, nil, 5},
	{"print noisy(0) && noisy(1);", nil, api.RunDone, 0, []int64{0, 0}, 12},
	{"print noisy(1) && noisy(0);", nil, api.RunDone, 0, []int64{1, 0, 0}, 21},
	{"print noisy(1) || noisy(2);", nil, api.RunDone, 0, []int64{1, 1}, 12},
	{"print noisy(0) || noisy(2);", nil, api.RunDone, 0, []int64{0, 2, 1}, 21},
	{"return read - read;", []int64{9, 4, 3}, api.RunDone, 5, nil, 5},
	{"print read; return read;", []int64{9}, api.RunTrap, api.TrapRead, []int64{9}, 5},
	{"return inc(2) - inc(3);", nil, api.RunDone, -3, nil, 21},
	{"return a[2];", nil, api.RunDone, 0, nil, 5},
	{"return a[3];", nil, api.RunTrap, api.TrapIndex, nil, 5},
	{"return a[-1];", nil, api.RunTrap, api.TrapIndex, nil, 6},
	{"return [4, 5, 6][1];", nil, api.RunDone, 5, nil, 8},
	{"a[1] = 8; return a[1] + a[0];", nil, api.RunDone, 8, nil, 12},
	{"a[3] = 8;", nil, api.RunTrap, api.TrapIndex, nil, 4},
	{"a[1 / 0] = inc(1);", nil, api.RunTrap, api.TrapDiv, nil, 14},
	{"a[inc(1)] = inc(1); print a[2]; print a[1]; return g;", nil, api.RunDone, 2, []int64{1, 0}, 30},
	{"r.y[1] = true; r.x = 3; print r.y[1]; print r.y[0]; return r.x;", nil, api.RunDone, 3, []int64{1, 0}, 19},
	{"r.y[2] = true;", nil, api.RunTrap, api.TrapIndex, nil, 4},
	{"let q = new R(5, [true, false]); q.x = 6; r = q; q.x = 7; print q.x; return r.x;", nil, api.RunDone, 6, []int64{7}, 19},
	{"let q = a; q[0] = 4; print q[0]; return a[0];", nil, api.RunDone, 0, []int64{4}, 14},
	{"let q: [2]R; q[1].y = [false, true]; print q[1].y[1]; return q[0].x;", nil, api.RunDone, 0, []int64{1}, 19},
	{"let q = 1; { let q = 2; print q; } print q; let q = 3; print q;", nil, api.RunDone, 0, []int64{2, 1, 3}, 14},
	{"let q = 1; { q = 2; let w = 5; w = 6; } return q;", nil, api.RunDone, 2, nil, 12},
	{"if t { print 1; } else { print 2; } if !t { print 3; } else { print 4; } if false { }", nil, api.RunDone, 0, []int64{1, 4}, 15},
	{"while g < 2 { g = g + 1; } return g;", nil, api.RunDone, 2, nil, 23},
	{"for i = 1 to 3 { print i; }", nil, api.RunDone, 0, []int64{1, 2}, 13},
	{"for i = 1 to 3 { i = 9; print i; }", nil, api.RunDone, 0, []int64{9, 9}, 17},
	{"let q = 7; for i = 1 to 3 { print i; } print q; for i = 0 to 2 { let z = i; for j = 0 to 1 { print j; } print z; print q; } return q;", nil, api.RunDone, 7, []int64{1, 2, 7, 0, 0, 7, 0, 1, 7}, 55},
	{"for i = 3 to 1 { print i; }", nil, api.RunDone, 0, nil, 5},
	{"for i = read to read { let j = i; return j; }", []int64{4, 9}, api.RunDone, 4, nil, 10},
	{"for i = 9223372036854775806 to 9223372036854775807 { print i; }", nil, api.RunDone, 0, []int64{math.MaxInt64 - 1}, 9},
	{"return silent();", nil, api.RunDone, 0, nil, 4},
	{"print pair()[1]; do silent();", nil, api.RunDone, 0, []int64{0}, 9},
	{"return rec_(3);", nil, api.RunDone, 3, nil, 51},
	{"let k = 1; print set(k); return k;", nil, api.RunDone, 1, []int64{5}, 13},
	{"return early();", nil, api.RunDone, 1, nil, 17},
	{"print 1; return 2; print 3;", nil, api.RunDone, 2, []int64{1}, 5},
	{"do noisy(1 / 0); print 5;", nil, api.RunTrap, api.TrapDiv, nil, 6},
	{"let k = [1 / 0, inc(1)]; print 1;", nil, api.RunTrap, api.TrapDiv, nil, 6},
	{"g = 1 / 0; print g;", nil, api.RunTrap, api.TrapDiv, nil, 5},
	{"if 1 / 0 == 0 { } else { print 1; }", nil, api.RunTrap, api.TrapDiv, nil, 6},
	{"for i = 1 / 0 to read { print 1; }", nil, api.RunTrap, api.TrapDiv, nil, 5},
	{"while 1 / 0 == 0 { print 1; }", nil, api.RunTrap, api.TrapDiv, nil, 6},
	{"print 1 / 0; print 2;", nil, api.RunTrap, api.TrapDiv, nil, 5},
}

func TestRun(t *testing.T) {
	for _, c := range runs {
		m := module(t, "pub fn main(): int { "+c.body+" }"+rest)
		in := slices.Clone(c.input)
		o, e := exec.Run(m, 0, in, 1000)
		if e != api.OK || !reflect.DeepEqual(o, api.Outcome{Kind: c.kind, N: c.n, Trace: o.Trace, Used: c.used}) || !slices.Equal(o.Trace, c.trace) || !slices.Equal(in, c.input) {
			t.Errorf("%q: %v %d", c.body, o, e)
		}
	}
}

// TestFuel: with less fuel than is needed a run is dry, and what it printed is a beginning; with as much, or more, it ends so.
func TestFuel(t *testing.T) {
	for _, c := range runs {
		m := module(t, "pub fn main(): int { "+c.body+" }"+rest)
		printed := 0
		for fuel := range c.used + 3 {
			o, _ := exec.Run(m, 0, c.input, fuel)
			if len(o.Trace) < printed || !slices.Equal(o.Trace, c.trace[:min(len(o.Trace), len(c.trace))]) || o.Used > fuel {
				t.Errorf("%q with %d: %v", c.body, fuel, o)
			}
			printed = len(o.Trace)
			if fuel < c.used && (o.Kind != api.RunDry || o.N != 0 || o.Used != fuel) || fuel >= c.used && (o.Kind != c.kind || o.N != c.n || o.Used != c.used) {
				t.Errorf("%q with %d: %v", c.body, fuel, o)
			}
		}
	}
	m := module(t, "fn f(): int { while true { } } fn g(): int { return g(); }")
	for f := range 2 {
		if o, e := exec.Run(m, f, nil, math.MaxInt); e != api.OK || o.Kind != api.RunDry || o.Used != api.MaxFuel {
			t.Error(o, e)
		}
		if o, e := exec.Run(m, f, nil, -5); e != api.OK || o.Kind != api.RunDry || o.Used != 0 {
			t.Error(o, e)
		}
	}
}

// TestKept: what is kept fits its type, however far a run goes.
func TestKept(t *testing.T) {
	for _, c := range runs {
		m := module(t, "pub fn main(): int { "+c.body+" }"+rest)
		for fuel := range c.used + 2 {
			s := exec.Start(m, c.input, fuel)
			v, out, e := exec.Call(m, s, 0, nil)
			if e != api.OK || len(out.Globals) != len(m.L) || len(out.Locals) != 0 || out.Fuel < 0 || out.Fuel > fuel || out.At < 0 || out.At > len(c.input) || out.Kind == 0 && !value.Fits(m, T{K: api.KInt}, v) || out.Kind != 0 && (v.N != 0 || len(v.L) != 0) {
				t.Fatalf("%q with %d: %v %v %d", c.body, fuel, v, out, e)
			}
			for i, d := range m.L {
				if d.K == api.KVar && !value.Fits(m, d.L[0], out.Globals[i]) || d.K != api.KVar && (out.Globals[i].N != 0 || len(out.Globals[i].L) != 0) {
					t.Errorf("%q with %d keeps %v", c.body, fuel, out.Globals[i])
				}
			}
		}
	}
}

func TestRunErrors(t *testing.T) {
	m := module(t, "var g: int; fn f(a: int): int { } fn h(): int { }")
	for f, want := range map[int]api.Errno{0: api.ErrNone, 1: api.ErrNone, 2: api.OK, 3: api.ErrNone, -1: api.ErrNone, math.MaxInt: api.ErrNone} {
		if o, e := exec.Run(m, f, nil, 10); e != want || want != api.OK && !reflect.DeepEqual(o, api.Outcome{}) {
			t.Errorf("%d: %v %d", f, o, e)
		}
	}
	if _, e := exec.Run(T{}, 0, nil, 10); e != api.ErrPlace {
		t.Error("no module")
	}
	m.L[2].S = "name"
	if _, e := exec.Run(m, 9, nil, 10); e != api.ErrPlace {
		t.Error("a module with a name")
	}
}

func TestStart(t *testing.T) {
	m := module(t, "var g: [2]bool; const c = 1; var r: R; rec R { a: int; } fn f(): int { }")
	in := []int64{3, 4}
	s := exec.Start(m, in, 77)
	in[0] = 9
	want := api.State{Globals: []V{list(V{}, V{}), {}, list(V{}), {}, {}}, Input: []int64{3, 4}, Fuel: 77}
	if !reflect.DeepEqual(s, want) {
		t.Error(s)
	}
	if exec.Start(m, nil, -1).Fuel != 0 || exec.Start(m, nil, api.MaxFuel+1).Fuel != api.MaxFuel || exec.Start(m, nil, math.MaxInt).Fuel != api.MaxFuel || exec.Start(m, nil, math.MinInt).Fuel != 0 || exec.Start(m, nil, api.MaxFuel).Fuel != api.MaxFuel {
		t.Error("fuel")
	}
	exec.Start(T{L: []T{{K: api.KVar}, {}}}, nil, 1)
}

const small = "var g: int; var a: [2]int; fn add(x: int, y: int): int { g = g + x; print y; return x - y; } const c = 4; rec R { p: int; q: bool; } fn flip(r: R): R { r.q = !r.q; return r; } fn bad(): int { print 8; return a[5]; }"

func state(m T) api.State {
	s := exec.Start(m, []int64{10, 20, 30}, 100)
	s.Globals[0], s.Globals[1] = n(5), list(n(6), n(7))
	s.At, s.Trace = 1, []int64{99}
	s.Locals = []V{n(3), list(n(4), n(1)), list(n(8), n(9))}
	return s
}

var types = []T{{K: api.KInt}, {K: api.KRec, N: 4}, {K: api.KArr, N: 2, L: []T{{K: api.KInt}}}}

func TestEval(t *testing.T) {
	m := module(t, small)
	call := func(f int64, l ...T) T { return T{K: api.KCall, N: f, L: l} }
	for i, c := range []struct {
		e    T
		v    V
		then func(s *api.State)
	}{
		{loc(2), n(3), func(s *api.State) { s.Fuel = 99 }},
		{loc(0), list(n(8), n(9)), func(s *api.State) { s.Fuel = 99 }},
		{T{K: api.KGlobal, N: 1}, list(n(6), n(7)), func(s *api.State) { s.Fuel = 99 }},
		{T{K: api.KConst, N: 3}, n(4), func(s *api.State) { s.Fuel = 99 }},
		{T{K: api.KField, N: 4*64 + 1, L: []T{loc(1)}}, n(1), func(s *api.State) { s.Fuel = 98 }},
		{T{K: api.KMake, N: 4, L: []T{loc(2), {K: api.KTruth, N: 1}}}, list(n(3), n(1)), func(s *api.State) { s.Fuel = 97 }},
		{T{K: api.KRead}, n(20), func(s *api.State) { s.Fuel, s.At = 99, 2 }},
		{call(2, loc(2), num(1)), n(2), func(s *api.State) { s.Fuel, s.Trace, s.Globals[0] = 86, []int64{99, 1}, n(8) }},
		{call(5, loc(1)), list(n(4), n(0)), func(s *api.State) { s.Fuel = 91 }},
		{call(6), V{}, func(s *api.State) { s.Fuel, s.Trace, s.Kind, s.N = 92, []int64{99, 8}, api.RunTrap, api.TrapIndex }},
		{T{K: api.KList, L: []T{call(6), {K: api.KRead}}}, V{}, func(s *api.State) { s.Fuel, s.Trace, s.Kind, s.N = 91, []int64{99, 8}, api.RunTrap, api.TrapIndex }},
	} {
		s, want := state(m), state(m)
		c.then(&want)
		v, out, e := exec.Eval(m, types, s, c.e)
		if e != api.OK || !value.Same(v, c.v) || !reflect.DeepEqual(out, want) || !reflect.DeepEqual(s, state(m)) {
			t.Errorf("%d: %v %v %d", i, v, out, e)
		}
	}
	room := state(m)
	room.Trace = append(make([]int64, 0, 9), 99)
	_, out, _ := exec.Eval(m, types, room, call(6))
	if room.Trace[:2][1] != 0 {
		t.Error("the room behind the end was written")
	}
	out.Locals[1].L[0].N, out.Locals[0].N, out.Input[0], out.Globals[1].L[0].N, out.Trace[0] = 77, 77, 77, 77, 77
	if again := state(m); !reflect.DeepEqual(room.Locals, again.Locals) || !reflect.DeepEqual(room.Input, again.Input) || !reflect.DeepEqual(room.Globals, again.Globals) || room.Trace[0] != 99 {
		t.Error("memory is shared")
	}
	v, out, _ := exec.Eval(m, types, state(m), T{K: api.KGlobal, N: 1})
	v.L[0].N = 77
	if out.Globals[1].L[0].N != 6 {
		t.Error("two parts of an answer share memory")
	}
	s := state(m)
	s.Fuel = 0
	if v, out, e := exec.Eval(m, types, s, num(4)); e != api.OK || v.N != 0 || out.Kind != api.RunDry || out.Fuel != 0 || len(out.Locals) != 3 {
		t.Error("no fuel", v, out, e)
	}
}

func TestCall(t *testing.T) {
	m := module(t, small)
	want := state(m)
	want.Fuel, want.Trace, want.Globals[0] = 89, []int64{99, 7}, n(7)
	s := state(m)
	v, out, e := exec.Call(m, s, 2, []V{n(2), n(7)})
	if e != api.OK || v.N != -5 || !reflect.DeepEqual(out, want) || !reflect.DeepEqual(s, state(m)) {
		t.Error(v, out, e)
	}
	args := []V{list(n(1), n(0))}
	v, _, e = exec.Call(m, state(m), 5, args)
	if e != api.OK || !value.Same(v, list(n(1), n(1))) || !reflect.DeepEqual(args, []V{list(n(1), n(0))}) {
		t.Error(v, e)
	}
}

func TestErrors(t *testing.T) {
	m := module(t, small)
	for i, c := range []struct {
		change func(s *api.State)
		eval   bool
	}{
		{func(s *api.State) { s.Globals = s.Globals[:6] }, false}, {func(s *api.State) { s.Globals = append(s.Globals, V{}) }, false}, {func(s *api.State) { s.Globals[0] = list(n(1)) }, false}, {func(s *api.State) { s.Globals[1] = list(n(1)) }, false}, {func(s *api.State) { s.Globals[2] = n(1) }, false}, {func(s *api.State) { s.Globals[3] = list(n(1)) }, false},
		{func(s *api.State) { s.At = -1 }, false}, {func(s *api.State) { s.At = 4 }, false}, {func(s *api.State) { s.Fuel = -1 }, false}, {func(s *api.State) { s.Fuel = api.MaxFuel + 1 }, false}, {func(s *api.State) { s.Kind = api.RunDone }, false}, {func(s *api.State) { s.N = 1 }, false}, {func(s *api.State) { s.Ret = n(1) }, false}, {func(s *api.State) { s.Ret = list(V{}) }, false},
		{func(s *api.State) { s.Locals = s.Locals[:2] }, true}, {func(s *api.State) { s.Locals[0] = list(V{}) }, true}, {func(s *api.State) { s.Locals[1] = list(n(1), n(2)) }, true}, {func(s *api.State) { s.Locals = append(s.Locals, V{}) }, true},
	} {
		s := state(m)
		c.change(&s)
		v, out, e := exec.Eval(m, types, s, loc(99))
		if e != api.ErrRange || !reflect.DeepEqual(v, V{}) || !reflect.DeepEqual(out, api.State{}) {
			t.Errorf("Eval %d: %d", i, e)
		}
		want := api.ErrRange
		if c.eval {
			want = api.OK
		}
		if _, _, e := exec.Call(m, s, 6, nil); e != want {
			t.Errorf("Call %d: %d", i, e)
		}
	}
	for i, change := range []func(s *api.State){func(s *api.State) { s.At = 0 }, func(s *api.State) { s.Fuel = api.MaxFuel }, func(s *api.State) { s.Fuel = 0 }, func(s *api.State) { s.Trace = nil }, func(s *api.State) { s.Input, s.At = nil, 0 }} {
		s := state(m)
		change(&s)
		if _, _, e := exec.Call(m, s, 6, nil); e != api.OK {
			t.Errorf("a state that fits, %d: %d", i, e)
		}
	}
	s := state(m)
	s.At = 3
	if _, _, e := exec.Eval(m, types, s, T{K: api.KRead}); e != api.OK {
		t.Error("all of the input was read", e)
	}
	for i, x := range []T{{}, loc(3), {K: api.KNum, S: "s"}, {K: api.KNum, From: 1}, {K: api.KNum, To: 1}, {K: api.KField, S: "q", L: []T{loc(1)}}, {K: api.KBin, N: api.OpAdd, L: []T{num(1), {K: api.KTruth}}}, {K: api.KReturn, L: []T{num(1)}}, {K: api.KUn, N: api.OpNeg, L: []T{{K: api.KNum, To: 1}}}} {
		if v, out, e := exec.Eval(m, types, state(m), x); e != api.ErrType || !reflect.DeepEqual(v, V{}) || !reflect.DeepEqual(out, api.State{}) {
			t.Errorf("%d: %d", i, e)
		}
	}
	for i, args := range [][]V{nil, {n(1)}, {n(1), list(n(1))}, {n(1), n(2), n(3)}} {
		if v, out, e := exec.Call(m, state(m), 2, args); e != api.ErrType || !reflect.DeepEqual(v, V{}) || !reflect.DeepEqual(out, api.State{}) {
			t.Errorf("%d: %d", i, e)
		}
	}
	for _, f := range []int{-1, 0, 1, 3, 4, 7, math.MaxInt, math.MinInt} {
		if _, _, e := exec.Call(m, api.State{}, f, nil); e != api.ErrNone {
			t.Errorf("a function at %d: %d", f, e)
		}
	}
	if _, _, e := exec.Call(T{}, api.State{}, 0, nil); e != api.ErrPlace {
		t.Error("Call", e)
	}
	if _, _, e := exec.Eval(T{K: api.KModule, To: 1}, nil, api.State{}, T{}); e != api.ErrPlace {
		t.Error("Eval", e)
	}
	if _, _, e := exec.Eval(m, []T{{}}, exec.Start(m, nil, 1), num(1)); e != api.ErrRange {
		t.Error("what is no type", e)
	}
}
