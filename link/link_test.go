package link_test

import (
	"reflect"
	"slices"
	"strings"
	"testing"

	"notary/api"
	"notary/exec"
	"notary/face"
	"notary/link"
	"notary/right"
	"notary/term"
)

const shown = "var v: int; pub fn f(a: int): int { v = v + a; return v * c; } rec R { x: int; } const c = 10; fn hidden(): int { return 1; } pub fn g(): [2]bool { return [true, false]; }"

func read(t *testing.T, text string) (api.Term, []api.Face) {
	t.Helper()
	n, s, at, e := right.Read(text)
	if e != api.OK {
		t.Fatalf("%q: %d %d", text, at, e)
	}
	return s, face.Of(n, s)
}

func TestLink(t *testing.T) {
	p, faces := read(t, shown)
	kept, _ := read(t, shown)
	client := "const k = 3; rec Q { y: int; z: [2]int; } var w: Q; fn help(q: Q): int { return q.y + k; } fn main(a: int): int { return a; } pub fn other(): int { return main(); } fn last(): int { w.y = @f(1); return help(w) + @f(k) + help(new Q(2, [3, 4])); }"
	if _, _, _, e := link.Link(p, faces, client); e != api.ErrType {
		t.Error("main with a parameter is called without", e)
	}
	client = strings.Replace(strings.Replace(client, "main()", "main(1)", 1), "fn last", "fn main_", 1)
	if m, main, at, e := link.Link(p, faces, client); e != api.ErrNone || main != 0 || at != 0 || !reflect.DeepEqual(m, api.Term{}) {
		t.Error("there is no main", e)
	}
	client = strings.Replace(strings.Replace(client, "main(", "mine(", 2), "fn main_", "fn main", 1)
	m, main, at, e := link.Link(p, faces, client)
	if e != api.OK || at != 0 || main != 12 || len(m.L) != 13 || !right.Right(m) || !reflect.DeepEqual(p, kept) {
		t.Fatal(main, at, e)
	}
	for i := range p.L {
		if !term.Same(m.L[i], p.L[i]) {
			t.Errorf("the declaration %d is %v", i, m.L[i])
		}
	}
	o, e := exec.Run(m, main, nil, 1000)
	if e != api.OK || o.Kind != api.RunDone || o.N != 13+40+5 {
		t.Error(o, e)
	}
}

func TestExample(t *testing.T) {
	p, faces := read(t, "pub fn f(a: int): int { return a; }")
	m, main, at, e := link.Link(p, faces, "fn main(): int { return @f(2); }")
	if e != api.OK || main != 1 || at != 0 || len(m.L) != 2 || m.L[1].L[2].L[0].L[0].K != api.KCall || m.L[1].L[2].L[0].L[0].N != 0 {
		t.Error(m, main, at, e)
	}
	two := []api.Face{{Name: "f", Decl: 0}, {Name: "f", Decl: 77}, {Name: "g", Decl: 77}, {Name: "h", Decl: -1}}
	if _, _, _, e := link.Link(p, two, "fn main(): int { return @f(2); }"); e != api.OK {
		t.Error("the first face of a name counts", e)
	}
	for _, name := range []string{"g", "h"} {
		if _, _, at, e := link.Link(p, two, "fn main(): int { return @"+name+"(2); }"); e != api.ErrName || at != 24 {
			t.Error("a face that is nowhere", at, e)
		}
	}
}

// TestTwoMains: the first function of that name without parameters counts, and there is only one of a name.
func TestOnlyMain(t *testing.T) {
	p, faces := read(t, "fn main(): int { return 1; }")
	for client, want := range map[string]api.Errno{"": api.ErrNone, "var main: int;": api.ErrNone, "const main = 1;": api.ErrNone, "rec main { a: int; }": api.ErrNone, "fn main(a: int): int { }": api.ErrNone, "fn Main(): int { }": api.ErrNone, "pub fn main(): bool { return true; }": api.OK, "fn main(): int { return main(); }": api.OK} {
		if _, main, _, e := link.Link(p, faces, client); e != want || e == api.OK && main != 1 {
			t.Errorf("%q: %d %d", client, main, e)
		}
	}
}

func TestLinkErrors(t *testing.T) {
	p, faces := read(t, shown)
	for _, c := range []struct {
		client string
		at     int
		e      api.Errno
	}{
		{"&", 0, api.ErrChar}, {" fn", 3, api.ErrToken}, {"var a: int; var a: int;", 12, api.ErrTwice}, {"fn main(): int { return v; }", 24, api.ErrName}, {"fn main(): int { return f(1); }", 24, api.ErrName}, {"fn main(): R { }", 11, api.ErrName}, {"fn main(): int { return c; }", 24, api.ErrName},
		{"fn main(): int { return @hidden(); }", 24, api.ErrName}, {"fn main(): int { return @h(x); }", 27, api.ErrName}, {"fn main(): int { return @h(1); }", 24, api.ErrName}, {"fn main(): int { return @f(); }", 24, api.ErrType}, {"fn main(): int { return @f(true); }", 24, api.ErrType}, {"fn main(): int { return @g(); }", 24, api.ErrType}, {"fn main(): int { 1 = 2; }", 17, api.ErrPlace}, {"var a: [17]int;", 7, api.ErrSize}, {"fn main(): int { do @f(1); do @x(); }", 30, api.ErrPlace},
	} {
		m, main, at, e := link.Link(p, faces, c.client)
		if at != c.at || e != c.e || main != 0 || !reflect.DeepEqual(m, api.Term{}) {
			t.Errorf("%q: %d %d", c.client, at, e)
		}
	}
	for _, m := range []api.Term{{}, {K: api.KModule, S: "s"}, {K: api.KModule, L: []api.Term{{}}}} {
		if _, _, at, e := link.Link(m, faces, "&"); at != 0 || e != api.ErrPlace {
			t.Error("what is not right", at, e)
		}
	}
	if _, main, _, e := link.Link(p, faces, "fn main(): bool { do @f(1); return @g()[0]; }"); main != 6 || e != api.OK {
		t.Error(main, e)
	}
}

// TestOnlyWhatIsShown: modules that show the same can be linked with the same clients.
func TestOnlyWhatIsShown(t *testing.T) {
	p, f := read(t, shown)
	q, g := read(t, "pub fn f(a: int): int { return a; } pub fn g(): [2]bool { let a: [2]bool; return a; }")
	for _, client := range []string{"fn main(): int { return @f(1); }", "fn main(): int { return @f(true); }", "fn main(): int { return @hidden(); }", "fn main(): bool { return @g()[1]; }", "var v: int; fn main(): int { return v; }", "fn main(): int { return c; }"} {
		_, _, at, e := link.Link(p, f, client)
		_, _, at2, e2 := link.Link(q, g, client)
		if at != at2 || e != e2 {
			t.Errorf("%q: %d %d, %d %d", client, at, e, at2, e2)
		}
	}
}

func TestRename(t *testing.T) {
	names := []api.Naming{{Old: "f", New: "longer"}, {Old: "g", New: "f"}, {Old: "f", New: "never"}, {Old: "if", New: "x"}, {Old: "h", New: ""}}
	for _, c := range []struct{ text, want string }{
		{"", ""}, {"print @f();", "print @longer();"}, {"f @ f f @// @f\n g @g(@f)", "f @ longer f @// @f\n f @f(@longer)"}, {"@if @h @k @@f @ 1 f", "@if @ @k @@longer @ 1 f"}, {"f g h", "f g h"}, {"print (f + -f); x = f; { f", "print (f + -f); x = f; { f"},
	} {
		if s, at, e := link.Rename(c.text, names); s != c.want || at != 0 || e != api.OK {
			t.Errorf("%q: %q %d %d", c.text, s, at, e)
		}
	}
	if s, at, e := link.Rename("@f &", names); s != "" || at != 3 || e != api.ErrChar {
		t.Error(s, at, e)
	}
	full := "@f" + strings.Repeat(" ", api.MaxSource-7)
	if s, _, e := link.Rename(full, names); len(s) != api.MaxSource || e != api.OK {
		t.Error("just as long as may be", len(s), e)
	}
	if s, at, e := link.Rename(full+" ", names); s != "" || at != 0 || e != api.ErrLong {
		t.Error("too long", len(s), e)
	}
	if _, at, e := link.Rename(strings.Repeat(" ", api.MaxSource+1), nil); at != 0 || e != api.ErrLong {
		t.Error("a client that is too long", e)
	}
}

func TestAgree(t *testing.T) {
	o := func(kind int, n int64, trace ...int64) api.Outcome {
		return api.Outcome{Kind: kind, N: n, Trace: trace, Used: len(trace)}
	}
	done, trap, dry := api.RunDone, api.RunTrap, api.RunDry
	for _, c := range []struct {
		a, b  api.Outcome
		agree bool
	}{
		{o(done, 1, 2), o(done, 1, 2), true}, {o(done, 1, 2), o(done, 2, 2), false}, {o(done, 1, 2), o(done, 1, 3), false}, {o(done, 1, 2), o(done, 1, 2, 3), false}, {o(done, 1), o(trap, 1), false}, {o(trap, 1), o(trap, 1), true}, {o(trap, 1), o(trap, 2), false},
		{o(dry, 0, 1), o(done, 5, 1, 2), true}, {o(dry, 0, 1, 2), o(done, 5, 1, 2), true}, {o(dry, 0, 1, 2, 3), o(done, 5, 1, 2), true}, {o(dry, 0, 1, 3), o(done, 5, 1, 2), false}, {o(dry, 0), o(trap, 1, 1), true}, {o(dry, 0, 1), o(dry, 0, 1, 2), true}, {o(dry, 0, 2), o(dry, 0, 1, 2), false}, {o(dry, 0), o(dry, 0), true},
	} {
		a, b := slices.Clone(c.a.Trace), slices.Clone(c.b.Trace)
		if link.Agree(c.a, c.b) != c.agree || link.Agree(c.b, c.a) != c.agree || !slices.Equal(a, c.a.Trace) || !slices.Equal(b, c.b.Trace) {
			t.Errorf("%v and %v", c.a, c.b)
		}
	}
	x := o(done, 1, 2)
	x.Used = 99
	if !link.Agree(x, o(done, 1, 2)) {
		t.Error("the fuel does not matter")
	}
}
