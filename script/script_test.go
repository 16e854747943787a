package script_test

import (
	"math"
	"reflect"
	"strings"
	"testing"

	"notary/api"
	"notary/script"
	"notary/session"
)

func allBytes() string {
	var b []byte
	for c := range 256 {
		b = append(b, byte(c))
	}
	return string(b)
}

func TestQuote(t *testing.T) {
	for s, want := range map[string]string{"": `""`, "abc": `"abc"`, "a\"b\\c\n": `"a\"b\\c\n"`, "\x00\t\r\x1f\x7f\x80\xff": `"\x00\x09\x0d\x1f\x7f\x80\xff"`, " ~": `" ~"`, "é": `"\xc3\xa9"`, "\\n": `"\\n"`, "'": `"'"`} {
		if q := script.Quote(s); q != want {
			t.Errorf("%q: %s", s, q)
		}
	}
	q := script.Quote(allBytes())
	if l, _, e := script.Parse("note " + q + "\n"); e != api.OK || l[0].Text != allBytes() {
		t.Error("all bytes", e)
	}
}

// lines: operations, and their lines.
var lines = []struct {
	o    api.Op
	line string
}{
	{api.Op{Kind: api.SesLoad}, `load ""`}, {api.Op{Kind: api.SesLoad, Text: "var a: int;\n"}, `load "var a: int;\n"`}, {api.Op{Kind: api.SesNote, Text: "\"\\\x01"}, `note "\"\\\x01"`}, {api.Op{Kind: api.SesNote}, `note ""`},
	{api.Op{Kind: api.SesRefactor, Req: api.Request{Kind: 1, From: 4, To: 5, Name: "b"}}, `refactor 1 4 5 "b"`}, {api.Op{Kind: api.SesRefactor, Req: api.Request{Kind: 7, Nums: []int{1, 0}}}, `refactor 7 0 0 "" 1 0`}, {api.Op{Kind: api.SesRefactor, Req: api.Request{Kind: -1, From: math.MinInt, To: math.MaxInt, Name: " ", Nums: []int{-5}}}, `refactor -1 -9223372036854775808 9223372036854775807 " " -5`}, {api.Op{Kind: api.SesRefactor}, `refactor 0 0 0 ""`},
	{api.Op{Kind: api.SesCheck}, `check`}, {api.Op{Kind: api.SesCheck, Text: "x y"}, `check "x y"`}, {api.Op{Kind: api.SesUndo}, `undo`}, {api.Op{Kind: api.SesSync}, `sync`}, {api.Op{Kind: api.SesCrash}, `crash 0`}, {api.Op{Kind: api.SesCrash, N: -37}, `crash -37`}, {api.Op{Kind: api.SesRecover}, `recover`}, {api.Op{Kind: api.SesVerify}, `verify`},
}

func TestBoth(t *testing.T) {
	var all []api.Op
	text := ""
	for _, c := range lines {
		s, e := script.Print([]api.Op{c.o})
		if e != api.OK || s != c.line+"\n" {
			t.Errorf("%v: %q %d", c.o, s, e)
		}
		l, at, e := script.Parse(c.line + "\n")
		if e != api.OK || at != 0 || !reflect.DeepEqual(l, []api.Op{c.o}) {
			t.Errorf("%q: %v %d %d", c.line, l, at, e)
		}
		all = append(all, c.o)
		text += c.line + "\n"
	}
	if s, e := script.Print(all); e != api.OK || s != text {
		t.Errorf("%q %d", s, e)
	}
	if l, at, e := script.Parse(text); e != api.OK || at != 0 || !reflect.DeepEqual(l, all) {
		t.Error(l, at, e)
	}
	if s, e := script.Print(nil); e != api.OK || s != "" {
		t.Error("no operations")
	}
	if l, at, e := script.Parse(""); e != api.OK || at != 0 || len(l) != 0 {
		t.Error("an empty script")
	}
}

func TestPrintErrors(t *testing.T) {
	some := api.Request{Nums: []int{1}}
	for _, c := range []struct {
		o api.Op
		e api.Errno
	}{
		{api.Op{}, api.ErrKind}, {api.Op{Kind: 10, Text: "x"}, api.ErrKind}, {api.Op{Kind: -1}, api.ErrKind}, {api.Op{Kind: math.MaxInt}, api.ErrKind},
		{api.Op{Kind: api.SesLoad, N: 1}, api.ErrForm}, {api.Op{Kind: api.SesLoad, Req: some}, api.ErrForm}, {api.Op{Kind: api.SesNote, N: -1}, api.ErrForm}, {api.Op{Kind: api.SesRefactor, Text: "x"}, api.ErrForm}, {api.Op{Kind: api.SesRefactor, N: 1}, api.ErrForm}, {api.Op{Kind: api.SesCheck, N: 1}, api.ErrForm}, {api.Op{Kind: api.SesCheck, Req: api.Request{Name: "x"}}, api.ErrForm}, {api.Op{Kind: api.SesCrash, Text: "x"}, api.ErrForm}, {api.Op{Kind: api.SesCrash, Req: api.Request{Kind: 1}}, api.ErrForm},
		{api.Op{Kind: api.SesUndo, Text: "x"}, api.ErrForm}, {api.Op{Kind: api.SesUndo, N: 1}, api.ErrForm}, {api.Op{Kind: api.SesSync, Req: api.Request{From: 1}}, api.ErrForm}, {api.Op{Kind: api.SesRecover, Req: api.Request{To: 1}}, api.ErrForm}, {api.Op{Kind: api.SesVerify, Req: some}, api.ErrForm}, {api.Op{Kind: api.SesVerify, N: 1}, api.ErrForm}, {api.Op{Kind: api.SesUndo, Req: api.Request{Nums: []int{}}}, api.OK},
	} {
		s, e := script.Print([]api.Op{c.o})
		if e != c.e || e != api.OK && s != "" {
			t.Errorf("%v: %q %d", c.o, s, e)
		}
		if _, e := script.Print([]api.Op{{Kind: api.SesUndo}, c.o, {Kind: api.SesUndo, N: 1}, {}}); c.e != api.OK && e != c.e || c.e == api.OK && e != api.ErrForm {
			t.Errorf("the first that errs, %v: %d", c.o, e)
		}
	}
}

func TestParseErrors(t *testing.T) {
	for _, line := range []string{
		"", " ", "undo ", " undo", "Undo", "undo 1", "sync \"\"", "recover\r", "verify verify", "crash", "crash ", "crash 01", "crash -0", "crash +1", "crash 1 ", "crash 1 2", "crash 9223372036854775808", "crash 0x1", "crash  1", "crash 1a", "crash \"1\"", "crash 1_0",
		"load", "load ", "load x", `load "`, `load "x`, `load x"`, `load "x" `, `load  "x"`, `load "x""`, `load "x" "y"`, `load "\t"`, `load "\x41"`, `load "\x0a"`, `load "\xFF"`, `load "\xf"`, `load "\x"`, `load "\xg0"`, `load "\"`, `load "\`, "load \"\t\"", "load \"\x7f\"", "load \"\xff\"", `load "\x22"`, `load "\x5c"`, `load "\'"`, `load 'x'`, `note`, `note x`,
		`check ""`, `check `, `check x`, `check "x" 1`, `check 1`, `refactor`, `refactor 1`, `refactor 1 2 3`, `refactor 1 2 3 b`, `refactor 1 2 "b"`, `refactor 1 2 3 "b" `, `refactor 1 2 3 "b" x`, `refactor 1 2 3 "b" 01`, `refactor 1 2 3 "b" 1 `, `refactor 1 2 3 "b"1`, `refactor "b"`, `refactor 1 2 3 "b" "c"`, `refactor 1  2 3 "b"`, `unknown`, `loadx "a"`,
	} {
		for ahead, text := range []string{line + "\n", "undo\n" + line + "\nundo x\n", "load \"\\n\"\nsync\n" + line + "\n"} {
			l, at, e := script.Parse(text)
			if e != api.ErrForm || at != ahead+1 || len(l) != 0 {
				t.Errorf("%q: %v %d %d", text, l, at, e)
			}
			if s, at, e := script.Run(nil, 100, text); e != api.ErrForm || at != ahead+1 || s != "" {
				t.Errorf("%q runs: %q %d %d", text, s, at, e)
			}
		}
	}
	for text, want := range map[string]int{"undo": 1, "undo\nsync": 2, "undo\n ": 2, "undo\n\n": 2, "\n": 1, "x\nundo": 1, "undo\nundo\nundo\nx": 4} {
		if l, at, e := script.Parse(text); e != api.ErrForm || at != want || len(l) != 0 {
			t.Errorf("%q: %d %d", text, at, e)
		}
	}
}

// TestOneForm: whatever line is read is printed just so.
func TestOneForm(t *testing.T) {
	for _, c := range lines {
		for i := range c.line {
			for b := range 256 {
				text := c.line[:i] + string([]byte{byte(b)}) + c.line[i+1:] + "\n"
				if l, _, e := script.Parse(text); e == api.OK {
					if s, e := script.Print(l); e != api.OK || s != text {
						t.Errorf("%q is printed %q", text, s)
					}
				}
			}
		}
	}
}

func TestRun(t *testing.T) {
	text := `load "var a: int;"
refactor 1 4 5 "b"
check
check "var c: int; "
note "hello"
sync
undo
undo
refactor 1 0 0 "b"
verify
note "\x00"
crash 37
crash 0
sync
recover
recover
verify
`
	want := `0 1
0 1 "var b: int;"
0 1
21 2
0 3
0 317
0 0 "var a: int;"
14 0
24 0
0 3
0 4
0 354
0 354
30 0
0 3
15 0
0 3
`
	out, at, e := script.Run([]byte("key"), 10000, text)
	if e != api.OK || at != 0 || out != want {
		t.Errorf("%s %d %d", out, at, e)
	}
	ops, _, _ := script.Parse(text)
	s := session.New([]byte("key"), 10000)
	for i, l := range strings.Split(strings.TrimSuffix(want, "\n"), "\n") {
		r := s.Do(ops[i])
		if !strings.HasPrefix(l, itoa(int(r.Err))+" "+itoa(r.N)) || r.Text != "" && !strings.HasSuffix(l, " "+script.Quote(r.Text)) {
			t.Errorf("line %d: %v, not %s", i+1, r, l)
		}
	}
	if out, _, _ := script.Run(nil, 0, "note \"\"\n"); out != "28 0\n" {
		t.Error(out)
	}
	if out, at, e := script.Run(nil, 0, ""); out != "" || at != 0 || e != api.OK {
		t.Error("no operations", out, at, e)
	}
	room := "load \"var a: int;\"\nrefactor 1 4 5 \"b\"\ncheck\nnote \"n\"\n"
	if out, _, _ := script.Run(nil, 140, room); out != "0 1\n0 1 \"var b: int;\"\n28 0\n0 1\n" {
		t.Error(out)
	}
}

func itoa(n int) string {
	s, _ := script.Print([]api.Op{{Kind: api.SesCrash, N: n}})
	return strings.TrimSuffix(strings.TrimPrefix(s, "crash "), "\n")
}
