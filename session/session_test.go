package session_test

import (
	"bytes"
	"crypto/sha256"
	"encoding/binary"
	"math"
	"slices"
	"strings"
	"testing"

	"notary/api"
	"notary/chain"
	"notary/check"
	"notary/engine"
	"notary/session"
)

var key = []byte("key")

func load(text string) api.Op  { return api.Op{Kind: api.SesLoad, Text: text} }
func note(text string) api.Op  { return api.Op{Kind: api.SesNote, Text: text} }
func tests(text string) api.Op { return api.Op{Kind: api.SesCheck, Text: text} }
func crash(n int) api.Op       { return api.Op{Kind: api.SesCrash, N: n} }
func rename(from int, name string) api.Op {
	return api.Op{Kind: api.SesRefactor, Req: api.Request{Kind: api.ReqRename, From: from, To: from + 1, Name: name}}
}

var (
	undo     = api.Op{Kind: api.SesUndo}
	synced   = api.Op{Kind: api.SesSync}
	recovers = api.Op{Kind: api.SesRecover}
	verify   = api.Op{Kind: api.SesVerify}
)

// do asks that operations come to replies.
func do(t *testing.T, s *session.Session, l ...any) {
	t.Helper()
	for i := 0; i < len(l); i += 2 {
		if r := s.Do(l[i].(api.Op)); r != l[i+1].(api.Reply) {
			t.Errorf("%d: %v: %v, not %v", i/2, l[i], r, l[i+1])
		}
	}
}

func ok(n int, text ...string) api.Reply {
	return api.Reply{N: n, Text: strings.Join(text, "")}
}

func err(e api.Errno, n ...int) api.Reply {
	r := api.Reply{Err: e}
	for _, x := range n {
		r.N = x
	}
	return r
}

const one, two, three = "var a: int;", "var b: int;", "var c: int;"

func TestExample(t *testing.T) {
	s := session.New(key, 1000)
	do(t, s, load(one), ok(1), rename(4, "b"), ok(1, two), tests(""), ok(1), undo, ok(0, one))
	if s.Text() != one {
		t.Error(s.Text())
	}
}

func TestTexts(t *testing.T) {
	s := session.New(key, 1000)
	if !s.Up() || s.Text() != "" || s.Count() != 0 || len(s.Log()) != 0 || !bytes.Equal(s.Tag(), chain.First()) {
		t.Error("a new session")
	}
	do(t, s, undo, err(api.ErrNone), tests(""), err(api.ErrNone), load("&"), err(api.ErrChar), load("fn f(): int { return x; }"), err(api.ErrName), load("const c = 1; rec R { a: int; } fn f(): int { return c; }"), ok(3), load(""), ok(0), load(one), ok(1))
	do(t, s, rename(0, "b"), err(api.ErrSelect), rename(4, "if"), err(api.ErrName), api.Op{Kind: api.SesRefactor}, err(api.ErrKind), undo, err(api.ErrNone))
	do(t, s, rename(4, "b"), ok(1, two), rename(4, "c"), ok(1, three), rename(4, "b"), ok(1, two), undo, ok(2, three), undo, ok(1, two), load("&"), err(api.ErrChar))
	if s.Text() != two {
		t.Error(s.Text())
	}
	do(t, s, rename(4, "x"), ok(1, "var x: int;"), undo, ok(1, two), undo, ok(0, one), undo, err(api.ErrNone), rename(4, "b"), ok(1, two), load(three), ok(1), undo, err(api.ErrNone), tests(""), err(api.ErrNone))
	if s.Text() != three || s.Count() != 0 {
		t.Error(s.Text())
	}
	do(t, s, load("pub fn f(a: int): int { return a + 0; }"), ok(1), api.Op{Kind: api.SesRefactor, Req: api.Request{Kind: api.ReqExtractVar, From: 31, To: 36, Name: "b"}}, ok(2, "pub fn f(a: int): int { let b = a + 0; return b; }"))
}

// entryOf is the body of an entry of a check.
func entryOf(p, q string, cert []byte, rest ...byte) []byte {
	a, b, c := sha256.Sum256([]byte(p)), sha256.Sum256([]byte(q)), sha256.Sum256(cert)
	return slices.Concat(a[:], b[:], c[:], rest)
}

func TestCheck(t *testing.T) {
	s := session.New(key, 1000)
	text := "pub fn f(a: int): int { return a + 0; }"
	req := api.Request{Kind: api.ReqExtractVar, From: 31, To: 36, Name: "b"}
	plan, _ := engine.Make(text, req)
	patched, _ := engine.Apply(text, plan)
	verdict, _ := check.Check(text, patched, plan.Cert)
	do(t, s, load(text), ok(1), api.Op{Kind: api.SesRefactor, Req: req}, ok(2, patched), note("x"), ok(1), tests(""), ok(2), tests(""), ok(3), tests(patched), ok(4), tests(text), err(api.ErrRange, 5), tests("&"), err(api.ErrChar, 6), tests(strings.Replace(patched, "0", "1", 1)), err(api.ErrMeaning, 7))
	if s.Text() != patched {
		t.Error("a check changes the text")
	}
	accept := entryOf(text, patched, plan.Cert, binary.BigEndian.AppendUint64(nil, verdict.Slack)...)
	other := strings.Replace(patched, "0", "1", 1)
	want := []api.Entry{{Kind: api.EntNote, Body: []byte("x")}, {Kind: api.EntAccept, Body: accept}, {Kind: api.EntAccept, Body: accept}, {Kind: api.EntAccept, Body: accept}, {Kind: api.EntReject, Body: entryOf(text, text, plan.Cert, byte(api.ErrRange))}, {Kind: api.EntReject, Body: entryOf(text, "&", plan.Cert, byte(api.ErrChar))}, {Kind: api.EntReject, Body: entryOf(text, other, plan.Cert, byte(api.ErrMeaning))}}
	l, tag, e := chain.Entries(key, s.Log())
	if e != api.OK || !bytes.Equal(tag, s.Tag()) || s.Count() != 7 || !slices.EqualFunc(l, want, func(a, b api.Entry) bool { return a.Kind == b.Kind && bytes.Equal(a.Body, b.Body) }) {
		t.Error(l, e)
	}
	do(t, s, undo, ok(0, text), tests(""), err(api.ErrNone))
	if s.Count() != 7 {
		t.Error("nothing waits any more")
	}
}

// TestSlack: a slack is written in eight bytes, the highest first.
func TestSlack(t *testing.T) {
	s := session.New(key, 1000)
	text := "fn f(a: int): int { print a; " + strings.Repeat("{ print a - 1; } ", 100) + "return 0; }"
	do(t, s, load(text), ok(1))
	r := s.Do(api.Op{Kind: api.SesRefactor, Req: api.Request{Kind: api.ReqExtractVar, From: 26, To: 27, Name: "b"}})
	if r.Err != api.OK {
		t.Fatal(r)
	}
	do(t, s, tests(""), ok(1))
	l, _, _ := chain.Entries(key, s.Log())
	plan, _ := engine.Make(text, api.Request{Kind: api.ReqExtractVar, From: 26, To: 27, Name: "b"})
	v, _ := check.Check(text, r.Text, plan.Cert)
	if v.Slack < 700 || len(l) != 1 || !bytes.Equal(l[0].Body[96:], binary.BigEndian.AppendUint64(nil, v.Slack)) {
		t.Error(v.Slack, l)
	}
}

func TestFull(t *testing.T) {
	s := session.New(key, 140)
	do(t, s, load(one), ok(1), rename(4, "b"), ok(1, two), tests(""), err(api.ErrFull), note("x"), ok(1), note(strings.Repeat("y", 66)), err(api.ErrFull), note(strings.Repeat("y", 65)), ok(2), note(""), err(api.ErrFull), verify, ok(2))
	if s.Count() != 2 || len(s.Log()) != 140 || s.Text() != two {
		t.Error(s.Count(), len(s.Log()))
	}
	just := session.New(key, 141)
	do(t, just, load(one), ok(1), rename(4, "b"), ok(1, two), tests(""), ok(1))
	for _, room := range []int{0, -1, math.MinInt} {
		do(t, session.New(key, room), note(""), err(api.ErrFull), synced, ok(0), verify, ok(0))
	}
	do(t, session.New(key, math.MaxInt), note(strings.Repeat("y", 1024)), ok(1), note(strings.Repeat("y", 1025)), err(api.ErrLong), synced, ok(4+1+1024+32))
}

func TestCrashes(t *testing.T) {
	s := session.New(key, 1000)
	do(t, s, note("a"), ok(1), synced, ok(38), note("b"), ok(2), load(one), ok(1), rename(4, "b"), ok(1, two), recovers, err(api.ErrOrder), crash(37), ok(75))
	if s.Up() || s.Text() != "" || s.Count() != 0 || !bytes.Equal(s.Tag(), chain.First()) || len(s.Log()) != 75 {
		t.Error("a session that is down")
	}
	for kind := -1; kind <= 11; kind++ {
		want := err(api.ErrDown)
		if kind < 1 || kind > 9 {
			want = err(api.ErrKind)
		}
		if kind != api.SesCrash && kind != api.SesRecover {
			do(t, s, api.Op{Kind: kind, Text: one, N: 1}, want)
		}
	}
	do(t, s, crash(0), ok(75), crash(99), ok(75), recovers, ok(1), verify, ok(1), undo, err(api.ErrNone), tests(""), err(api.ErrNone), synced, ok(38))
	if !s.Up() || s.Text() != "" || s.Count() != 1 || len(s.Log()) != 38 {
		t.Error("a session that is up again")
	}
	do(t, s, note("c"), ok(2), crash(38), ok(76), recovers, ok(2), note("d"), ok(3), crash(-1), ok(76), recovers, ok(2), verify, ok(2))
	l, _, _ := chain.Entries(key, s.Log())
	if len(l) != 2 || string(l[0].Body) != "a" || string(l[1].Body) != "c" {
		t.Error(l)
	}
}

func TestNil(t *testing.T) {
	var s *session.Session
	if s.Up() || s.Text() != "" || len(s.Log()) != 0 || s.Count() != 0 || !bytes.Equal(s.Tag(), chain.First()) {
		t.Error("a nil session")
	}
	for kind := -1; kind < 12; kind++ {
		do(t, s, api.Op{Kind: kind}, err(api.ErrDown))
	}
}

func TestOtherKinds(t *testing.T) {
	s := session.New(key, 100)
	for _, kind := range []int{0, -1, 10, math.MaxInt, math.MinInt} {
		do(t, s, api.Op{Kind: kind, Text: one}, err(api.ErrKind))
	}
}

func TestMemory(t *testing.T) {
	k := []byte("key")
	s := session.New(k, 1000)
	k[0] = 'x'
	do(t, s, note("a"), ok(1))
	s.Log()[5]++
	s.Tag()[0]++
	do(t, s, verify, ok(1))
	if !chain.Verify(key, s.Log(), 1, s.Tag()) {
		t.Error("memory is shared")
	}
}

// TestWhatever: behind whatever operations the log verifies, each EntAccept was checked, what was sure is there, and what is undone leaves the text that was.
func TestWhatever(t *testing.T) {
	ops := []api.Op{load(one), load("pub fn f(a: int): int { return a; }"), rename(4, "b"), rename(4, "c"), tests(""), tests(two), tests("x"), undo, note("n"), note(strings.Repeat("m", 60)), synced, crash(0), crash(20), crash(500), recovers, verify}
	seed := uint32(7)
	for round := range 60 {
		s := session.New(key, 300+100*(round%5))
		accepted := map[string]int{}
		sure := 0
		var ahead, behind string
		var cert []byte
		for range 60 {
			seed = seed*1664525 + 1013904223
			o := ops[int(seed>>16)%len(ops)]
			text, up := s.Text(), s.Up()
			r := s.Do(o)
			switch {
			case o.Kind == api.SesRefactor && r.Err == api.OK:
				plan, _ := engine.Make(text, o.Req)
				ahead, behind, cert = text, r.Text, plan.Cert
			case o.Kind == api.SesCheck && r.Err == api.OK:
				q := behind
				if o.Text != "" {
					q = o.Text
				}
				if _, e := check.Check(ahead, q, cert); e != api.OK {
					t.Fatalf("%q to %q is accepted", ahead, q)
				}
				accepted[string(entryOf(ahead, q, cert))] = 1
			case o.Kind == api.SesSync && up:
				sure = s.Count()
			case o.Kind == api.SesRecover && r.Err == api.OK:
				if r.N < sure {
					t.Fatalf("%d of %d sure entries", r.N, sure)
				}
				sure = r.N
			}
			if r.Err != api.OK && (r.Text != "" || r.N != 0 && o.Kind != api.SesCheck) {
				t.Errorf("%v: %v", o, r)
			}
			if !s.Up() {
				continue
			}
			if !chain.Verify(key, s.Log(), s.Count(), s.Tag()) {
				t.Fatalf("the log does not verify behind %v", o)
			}
			l, _, _ := chain.Entries(key, s.Log())
			for _, x := range l {
				if x.Kind == api.EntAccept && accepted[string(x.Body[:96])] == 0 {
					t.Fatalf("%v was never checked", x)
				}
			}
			if o.Kind == api.SesRefactor && r.Err == api.OK {
				if back := s.Do(undo); back.Err != api.OK || s.Text() != text {
					t.Errorf("%q is not undone", behind)
				}
				s.Do(o)
			}
		}
	}
}
