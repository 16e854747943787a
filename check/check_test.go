package check_test

import (
	"reflect"
	"slices"
	"strings"
	"testing"

	"notary/api"
	"notary/cert"
	"notary/check"
	"notary/exec"
	"notary/face"
	"notary/link"
	"notary/region"
	"notary/right"
)

type (
	T = api.Term
	D = api.Deriv
	S = api.Step
)

func settled(t *testing.T, text string) T {
	t.Helper()
	_, m, at, e := right.Read(text)
	if e != api.OK {
		t.Fatalf("%q: %d %d", text, at, e)
	}
	return m
}

func seq(l ...S) D {
	d := D{K: api.DerSeq}
	for _, s := range l {
		d.L = append(d.L, D{K: api.DerStep, Step: s})
	}
	return d
}

func pairs(l ...int) []api.Pair {
	var out []api.Pair
	for i := 0; i < len(l); i += 2 {
		out = append(out, api.Pair{A: l[i], B: l[i+1]})
	}
	return out
}

func write(t *testing.T, c api.Cert) []byte {
	t.Helper()
	b, e := cert.Bytes(c)
	if e != api.OK {
		t.Fatal(e)
	}
	return b
}

const (
	p1 = "pub fn f(): int { return 1 + 0; }"
	q1 = "pub fn g(): int { return 1; }"
)

var c1 = api.Cert{Pairs: pairs(0, 0), Regions: []api.Region{{FromP: 7, ToP: 30, FromQ: 7, ToQ: 26}}, Deriv: seq(S{Rule: api.AddZero, Path: []int{0, 2, 0, 0}, Term: T{K: api.KNum, N: 1}})}

func TestExample(t *testing.T) {
	v, e := check.Check(p1, q1, write(t, c1))
	if e != api.OK || !reflect.DeepEqual(v, api.Verdict{Names: []api.Naming{{Old: "f", New: "g"}}, Slack: 6}) {
		t.Error(v, e)
	}
	client, _, _ := link.Rename("print @f();", v.Names)
	if client != "print @g();" {
		t.Error(client)
	}
}

// case2 has public functions that change places, and one that is dropped.
func case2(t *testing.T) (string, string, api.Cert) {
	p := "var v: int; pub fn f(a: int): int { v = v + a; return v; } fn gone(): int { return 1; } pub fn g(): bool { return true && v > 1; }"
	q := "pub fn first(): bool { return w > 1; } var w: int; pub fn second(b: int): int { w = w + b; return w; }"
	without := settled(t, "var v: int; pub fn f(a: int): int { v = v + a; return v; } pub fn g(): bool { return true && v > 1; }")
	turned := settled(t, "pub fn g(): bool { return true && v > 1; } var v: int; pub fn f(a: int): int { v = v + a; return v; }")
	last := settled(t, q).L[0].L[2].L[0].L[0]
	return p, q, api.Cert{Pairs: pairs(0, 1, 1, 2, 3, 0), Regions: region.One(p, q), Deriv: seq(S{Rule: api.DropDecl, Nums: []int{2}, Term: without}, S{Rule: api.PermDecls, Nums: []int{2, 0, 1}, Term: turned}, S{Rule: api.AndTrue, Path: []int{0, 2, 0, 0}, Term: last})}
}

func TestCheck(t *testing.T) {
	p, q, c := case2(t)
	v, e := check.Check(p, q, write(t, c))
	if e != api.OK || !slices.Equal(v.Names, []api.Naming{{Old: "f", New: "second"}, {Old: "g", New: "first"}}) || v.Slack != 2+5+3 {
		t.Error(v, e)
	}
	for _, client := range []string{"fn main(): int { print @g(); do @f(3); print @g(); return @f(4); }", "fn main(): int { while @f(1) < 5 { print @g(); } return 1 / 0; }"} {
		other, _, _ := link.Rename(client, v.Names)
		np, sp, _, _ := right.Read(p)
		nq, sq, _, _ := right.Read(q)
		lp, mp, _, e1 := link.Link(sp, face.Of(np, sp), client)
		lq, mq, _, e2 := link.Link(sq, face.Of(nq, sq), other)
		for fuel := range 120 {
			a, e3 := exec.Run(lp, mp, nil, fuel)
			b, e4 := exec.Run(lq, mq, nil, int(v.Slack)*(a.Used+1))
			if e1 != api.OK || e2 != api.OK || e3 != api.OK || e4 != api.OK || !link.Agree(a, b) || a.Kind != api.RunDry && b.Kind != a.Kind {
				t.Errorf("%q with %d: %v %v (%d %d %d %d)", client, fuel, a, b, e1, e2, e3, e4)
			}
		}
	}
}

// TestNames: names and places do not matter to the checker.
func TestNames(t *testing.T) {
	b := write(t, c1)
	long := write(t, api.Cert{Pairs: c1.Pairs, Regions: []api.Region{{FromP: 0, ToP: 33, FromQ: 0, ToQ: 51}}, Deriv: c1.Deriv})
	v, e := check.Check(p1, "pub  fn  other (  ) : int // x\n { return ( 1 ) ; }\n", long)
	if e != api.OK || v.Names[0].New != "other" {
		t.Error(v, e)
	}
	if _, e := check.Check(p1, strings.Replace(q1, "g", "h", 1), b); e != api.OK {
		t.Error(e)
	}
}

func TestIdentity(t *testing.T) {
	for text, n := range map[string]int{"": 0, p1: 1, "var v: int; pub fn f(): int { return v; } const c = 1;": 3} {
		c := api.Cert{Deriv: D{K: api.DerSeq}}
		for i := range n {
			c.Pairs = append(c.Pairs, api.Pair{A: i, B: i})
		}
		v, e := check.Check(text, text, write(t, c))
		if e != api.OK || v.Slack != 1 || len(v.Names) != min(n, 1) || n > 0 && v.Names[0] != (api.Naming{Old: "f", New: "f"}) {
			t.Errorf("%q: %v %d", text, v, e)
		}
		b, e := check.Flip(text, text, write(t, c))
		if e != api.OK || !slices.Equal(b, write(t, c)) {
			t.Errorf("%q turned: %v %d", text, b, e)
		}
	}
}

func TestErrors(t *testing.T) {
	with := func(change func(c *api.Cert)) []byte {
		c := c1
		change(&c)
		return write(t, c)
	}
	good := write(t, c1)
	same := func(c *api.Cert) {}
	wrongPairs := func(c *api.Cert) { c.Pairs = nil }
	wrongRegions := func(c *api.Cert) { c.Regions = []api.Region{{FromP: 7, ToP: 8, FromQ: 7, ToQ: 8}} }
	outside := func(c *api.Cert) { c.Regions = []api.Region{{FromP: 7, ToP: 99, FromQ: 7, ToQ: 26}} }
	nothing := func(c *api.Cert) { c.Deriv = D{K: api.DerSeq} }
	wrongRule := func(c *api.Cert) { c.Deriv = seq(S{Rule: 99, Term: T{K: 1}}) }
	wrongSide := func(c *api.Cert) {
		c.Deriv = seq(S{Rule: api.MulOne, Path: []int{0, 2, 0, 0}, Term: T{K: api.KNum, N: 1}})
	}
	wrongForm := func(c *api.Cert) { c.Deriv = seq(slices.Repeat([]S{{Rule: 1, Term: T{K: 1}}}, 65)...) }
	both := func(f, g func(c *api.Cert)) func(c *api.Cert) { return func(c *api.Cert) { f(c); g(c) } }
	for i, c := range []struct {
		p, q string
		b    []byte
		e    api.Errno
	}{
		{p1, q1, with(same), api.OK}, {"&", "fn", nil, api.ErrShort}, {"&", "fn", []byte{1}, api.ErrForm}, {"&", "fn", good[:len(good)-1], api.ErrShort}, {"&", "fn", append(slices.Clone(good), 0), api.ErrForm}, {"&", "fn", make([]byte, api.MaxBytes+1), api.ErrLong}, {"&", "fn", good, api.ErrChar}, {p1, "fn", good, api.ErrToken}, {"fn f(): int { return true; }", "fn", good, api.ErrType}, {p1, "fn f(): int { return x; }", with(outside), api.ErrName}, {p1, "var a: int; var a: int;", good, api.ErrTwice},
		{p1, q1, with(outside), api.ErrRange}, {p1, q1, with(both(outside, wrongRule)), api.ErrRange}, {p1, q1, with(wrongRegions), api.ErrRegion}, {p1, q1, with(both(wrongRegions, wrongRule)), api.ErrRegion}, {p1, q1, with(both(wrongRule, wrongPairs)), api.ErrRule}, {p1, q1, with(wrongSide), api.ErrSide}, {p1, q1, with(wrongForm), api.ErrLong}, {p1, q1, with(nothing), api.ErrMeaning}, {p1, q1, with(both(nothing, wrongPairs)), api.ErrMeaning}, {p1, q1, with(wrongPairs), api.ErrPair}, {p1, q1, with(func(c *api.Cert) { c.Pairs = pairs(0, 1) }), api.ErrPair}, {p1, q1, with(func(c *api.Cert) { c.Pairs = pairs(0, 0, 1, 1) }), api.ErrPair},
		{p1, strings.Replace(q1, "1", "2", 1), good, api.ErrMeaning}, {strings.Replace(p1, "0", "1", 1), q1, good, api.ErrSide}, {q1, p1, good, api.ErrRange}, {p1, q1 + " ", good, api.ErrRegion}, {p1 + " ", q1 + " ", good, api.OK},
	} {
		v, e := check.Check(c.p, c.q, c.b)
		if e != c.e || e != api.OK && !reflect.DeepEqual(v, api.Verdict{}) {
			t.Errorf("%d: %d, not %d", i, e, c.e)
		}
		if b, e := check.Flip(c.p, c.q, c.b); e != c.e || e != api.OK && len(b) != 0 {
			t.Errorf("%d turned: %d, not %d", i, e, c.e)
		}
	}
}

// TestFlip: a turned certificate is accepted the other way round, with the same slack, and each name turned round.
func TestFlip(t *testing.T) {
	p2, q2, c2 := case2(t)
	for i, c := range []struct {
		p, q string
		c    api.Cert
	}{{p1, q1, c1}, {p2, q2, c2}} {
		b := write(t, c.c)
		v, _ := check.Check(c.p, c.q, b)
		f, e := check.Flip(c.p, c.q, b)
		w, e2 := check.Check(c.q, c.p, f)
		if e != api.OK || e2 != api.OK || w.Slack != v.Slack || len(w.Names) != len(v.Names) {
			t.Fatal(i, e, e2, w)
		}
		for _, n := range v.Names {
			if !slices.Contains(w.Names, api.Naming{Old: n.New, New: n.Old}) {
				t.Errorf("%d: %v is not turned round in %v", i, n, w.Names)
			}
		}
		x, _ := cert.Read(f)
		if len(x.Pairs) != len(c.c.Pairs) || len(x.Regions) != len(c.c.Regions) || x.Deriv.K != api.DerSeq || len(x.Deriv.L) != len(c.c.Deriv.L) {
			t.Errorf("%d: %v", i, x)
		}
		for j, s := range x.Deriv.L {
			old := c.c.Deriv.L[len(x.Deriv.L)-1-j].Step
			if s.K != api.DerStep || !s.Step.Back || s.Step.Rule != old.Rule || !slices.Equal(s.Step.Path, old.Path) || !slices.Equal(s.Step.Nums, old.Nums) {
				t.Errorf("%d: the step %d is %v", i, j, s)
			}
		}
		again, e := check.Flip(c.q, c.p, f)
		if e != api.OK || i == 0 && !slices.Equal(again, b) {
			t.Errorf("%d: turned twice %v, not %v", i, again, b)
		}
	}
}

// TestFlipTooLong: a certificate that may be, whose turned one has more bytes than may be.
func TestFlipTooLong(t *testing.T) {
	p := "fn f(): int { while false { " + strings.Repeat("{}", 3900) + " } }"
	q := "fn f(): int { { } }"
	m := settled(t, p)
	all := slices.Repeat([]S{{Rule: api.PermDecls, Nums: []int{0}, Term: m}}, 5)
	for n := range 6 {
		c := api.Cert{Pairs: pairs(0, 0), Regions: region.One(p, q), Deriv: seq(append(slices.Clone(all[:n]), S{Rule: api.WhileFalse, Path: []int{0, 2, 0}, Term: T{K: api.KBlock}})...)}
		b := write(t, c)
		if _, e := check.Check(p, q, b); e != api.OK {
			t.Fatal(n, e)
		}
		want := api.OK
		if n == 5 {
			want = api.ErrLong
		}
		if f, e := check.Flip(p, q, b); e != want || (e == api.OK) != (len(f) > 0) {
			t.Errorf("%d: %d bytes, %d", n, len(f), e)
		}
	}
}
