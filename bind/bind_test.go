package bind_test

import (
	"slices"
	"strconv"
	"strings"
	"testing"

	"notary/api"
	"notary/bind"
	"notary/lex"
	"notary/right"
	"notary/term"
)

// marked takes texts in which each name is followed by _ and the number of its binder.
var marked = []string{
	"",
	"fn f_0(a_1: int): int { let a_2 = a_1; return a_2; }",
	"var v_0: R_1; rec R_1 { a_2: int; b_3: S_5; } const c_4 = 1; rec S_5 { a_6: [2]bool; } fn f_7(a_8: R_1, b_9: int): R_1 { a_8.a_2 = c_4; a_8.b_3.a_6[b_9] = v_0.b_3.a_6[0]; return new R_1(a_8.a_2, new S_5([true, false])); }",
	"pub fn f_0(): int { let f_1 = f_0(); { let x_2: int; x_2 = f_1; let x_3 = x_2; print x_3; } for f_4 = f_1 to f_1 { let f_5 = f_4; print f_5; } if true { let z_6 = 1; do g_8(z_6); } else { let z_7 = 2; print z_7; } return f_1; } fn g_8(f_9: int): int { return g_8(f_9) + f_0(); }",
	"pub // c\n fn // d\n f_0 ( ) : int { let // e\n x_1 = new // f\n R_2 ( 1 ) . a_3 ; return ( x_1 ) ; } rec R_2 { a_3 : int ; }",
	"fn f_0(i_1: int): int { for i_2 = i_1 to i_1 { for i_3 = i_2 to i_2 { print i_3; } print i_2; } while i_1 > 0 { let i_4 = i_1; i_4 = i_4; } return (f_0((i_1))); } var i_5: int; fn g_6(): int { return i_5; }",
	"rec P_0 { P_1: int; q_2: int; } fn P2_3(P_4: P_0): int { let q_5 = P_4.P_1; return (new P_0(q_5, P_4.q_2)).q_2 + [P_4][0].P_1; }",
}

// strip takes the numbers away, and tells the text, the uses and the names that are meant.
func strip(t *testing.T, text string) (string, []api.Use, []string) {
	t.Helper()
	var out strings.Builder
	var uses []api.Use
	names := map[int]string{}
	for at := 0; at < len(text); {
		end := at
		for end < len(text) && (text[end] >= 'a' && text[end] <= 'z' || text[end] >= 'A' && text[end] <= 'Z' || text[end] >= '0' && text[end] <= '9' || text[end] == '_') {
			end++
		}
		if end == at {
			out.WriteByte(text[at])
			at++
			continue
		}
		name, number, ok := strings.Cut(text[at:end], "_")
		at = end
		if ok {
			n, err := strconv.Atoi(number)
			if err != nil {
				t.Fatal(err)
			}
			uses = append(uses, api.Use{From: out.Len(), To: out.Len() + len(name), Binder: n})
			names[n] = name
		}
		out.WriteString(name)
	}
	var l []string
	for i := range len(names) {
		l = append(l, names[i])
	}
	return out.String(), uses, l
}

func TestUses(t *testing.T) {
	for _, m := range marked {
		text, want, names := strip(t, m)
		uses, e := bind.Uses(text)
		if e != api.OK || !slices.Equal(uses, want) {
			t.Errorf("%q: %v, not %v (%d)", text, uses, want, e)
		}
		if l := bind.Names(text); !slices.Equal(l, names) {
			t.Errorf("%q: %v", text, l)
		}
		tokens, _, _ := lex.Tokens(text)
		i := 0
		for _, x := range tokens {
			if x.K == api.TokName {
				if uses[i].From != x.From || uses[i].To != x.To || x.S != names[uses[i].Binder] {
					t.Errorf("%q: the token %v is the use %v", text, x, uses[i])
				}
				i++
			}
		}
	}
}

// TestOtherNames: with all uses of one binder spelt anew the settled module stays the same.
func TestOtherNames(t *testing.T) {
	for _, m := range marked {
		text, _, names := strip(t, m)
		uses, _ := bind.Uses(text)
		_, before, _, _ := right.Read(text)
		for b := range names {
			out := text
			for i := len(uses) - 1; i >= 0; i-- {
				if uses[i].Binder == b {
					out = out[:uses[i].From] + "brandnew" + out[uses[i].To:]
				}
			}
			_, after, at, e := right.Read(out)
			if e != api.OK || !term.Same(before, after) {
				t.Errorf("%q: %d %d", out, at, e)
			}
		}
	}
}

func TestErrors(t *testing.T) {
	for _, c := range []struct {
		text string
		e    api.Errno
	}{
		{"fn f(): int { return a; }", api.ErrName}, {"var a: int; var a: int;", api.ErrTwice}, {"var a: [0]int;", api.ErrSize}, {"fn f(): int { return true; }", api.ErrType}, {"var", api.ErrToken}, {"&", api.ErrChar}, {"fn f(): int { 1 = 1; }", api.ErrPlace}, {"fn f(): int { return @g(); }", api.ErrName}, {"00", api.ErrNumber}, {"abcdefghijklmnopq", api.ErrLong},
	} {
		if l, e := bind.Uses(c.text); len(l) != 0 || e != c.e {
			t.Errorf("%q: %v %d", c.text, l, e)
		}
		if l := bind.Names(c.text); len(l) != 0 {
			t.Errorf("%q: %v", c.text, l)
		}
	}
}
