package region_test

import (
	"math"
	"slices"
	"testing"

	"notary/api"
	"notary/patch"
	"notary/region"
)

func R(l ...int) []api.Region {
	var out []api.Region
	for i := 0; i < len(l); i += 4 {
		out = append(out, api.Region{FromP: l[i], ToP: l[i+1], FromQ: l[i+2], ToQ: l[i+3]})
	}
	return out
}

func turned(l []api.Region) []api.Region {
	var out []api.Region
	for _, r := range l {
		out = append(out, api.Region{FromP: r.FromQ, ToP: r.ToQ, FromQ: r.FromP, ToQ: r.ToP})
	}
	return out
}

func TestCheck(t *testing.T) {
	for i, c := range []struct {
		p, q string
		l    []api.Region
		e    api.Errno
	}{
		{"", "", nil, api.OK}, {"abc", "abc", nil, api.OK}, {"abc", "abd", nil, api.ErrRegion}, {"abc", "ab", nil, api.ErrRegion}, {"abc", "abc", R(1, 1, 1, 1), api.OK}, {"abc", "xyzw", R(0, 3, 0, 4), api.OK}, {"abcd", "abXXcd", R(2, 2, 2, 4), api.OK}, {"abcd", "abXXcd", R(1, 3, 1, 5), api.OK}, {"abcd", "abXXcd", R(2, 2, 2, 3), api.ErrRegion}, {"abcd", "abXXcd", R(1, 1, 2, 4), api.ErrRegion}, {"abcd", "AbcD", R(0, 1, 0, 1, 3, 4, 3, 4), api.OK}, {"abcd", "AbcD", R(0, 1, 0, 1), api.ErrRegion}, {"abcd", "Abcd", R(0, 1, 0, 1), api.OK}, {"abcd", "Abxd", R(0, 1, 0, 1, 3, 4, 3, 4), api.ErrRegion}, {"abcde", "aXcYe", R(1, 2, 1, 2, 3, 4, 3, 4), api.OK}, {"abcde", "ace", R(1, 2, 1, 1, 3, 4, 2, 2), api.OK},
		{"abc", "abc", R(-1, 1, 0, 1), api.ErrRange}, {"abc", "abc", R(2, 1, 1, 2), api.ErrRange}, {"abc", "abc", R(1, 4, 1, 2), api.ErrRange}, {"abc", "abc", R(4, 4, 3, 3), api.ErrRange}, {"abc", "abc", R(0, 0, 0, 0, 0, 0, 1, 1), api.ErrRange}, {"abc", "abc", R(0, 1, 0, 1, 1, 2, 2, 3), api.ErrRange}, {"abc", "abc", R(2, 2, 2, 2, 1, 1, 1, 1), api.ErrRange}, {"abc", "x", R(0, 0, 0, 0, 1, 9, 1, 1), api.ErrRange}, {"abc", "abc", R(math.MinInt, math.MaxInt, 0, 1), api.ErrRange}, {"abc", "abc", R(0, math.MaxInt, 0, 1), api.ErrRange}, {"abc", "xbc", R(1, 2, 1, 2, 0, 1, 0, 1), api.ErrRange},
	} {
		kept := slices.Clone(c.l)
		if e := region.Check(c.p, c.q, c.l); e != c.e {
			t.Errorf("%d: %d, not %d", i, e, c.e)
		}
		if e := region.Check(c.q, c.p, turned(c.l)); e != c.e || !slices.Equal(kept, c.l) {
			t.Errorf("%d the other way round: %d, not %d", i, e, c.e)
		}
	}
}

func TestOne(t *testing.T) {
	for _, c := range []struct {
		p, q string
		want []api.Region
	}{
		{"", "", nil}, {"abc", "abc", nil}, {"abcd", "abXXcd", R(2, 2, 2, 4)}, {"aa", "aaa", R(2, 2, 2, 3)}, {"aaa", "aa", R(2, 3, 2, 2)}, {"", "x", R(0, 0, 0, 1)}, {"x", "", R(0, 1, 0, 0)}, {"abc", "xyz", R(0, 3, 0, 3)}, {"abc", "axc", R(1, 2, 1, 2)}, {"abab", "ab", R(2, 4, 2, 2)}, {"ab", "abab", R(2, 2, 2, 4)}, {"xab", "ab", R(0, 1, 0, 0)}, {"aba", "abba", R(2, 2, 2, 3)}, {"\x00\xff", "\x00\xfe\xff", R(1, 1, 1, 2)},
	} {
		l := region.One(c.p, c.q)
		if !slices.Equal(l, c.want) {
			t.Errorf("%q and %q: %v", c.p, c.q, l)
		}
		if region.Check(c.p, c.q, l) != api.OK || region.Check(c.q, c.p, turned(l)) != api.OK {
			t.Errorf("%q and %q do not correspond by %v", c.p, c.q, l)
		}
		edits, e := region.Edits(c.q, l)
		if q, e2 := patch.Apply(c.p, edits); e != api.OK || e2 != api.OK || q != c.q {
			t.Errorf("%q becomes %q, not %q", c.p, q, c.q)
		}
	}
}

func TestEdits(t *testing.T) {
	l, e := region.Edits("aXXcYe", R(1, 2, 1, 3, 77, -3, 4, 5, 0, 0, 0, 0))
	if e != api.OK || !slices.Equal(l, []api.Edit{{From: 1, To: 2, Text: "XX"}, {From: 77, To: -3, Text: "Y"}, {}}) {
		t.Error(l, e)
	}
	if l, e := region.Edits("abc", nil); e != api.OK || len(l) != 0 {
		t.Error(l, e)
	}
	for _, r := range [][]api.Region{R(0, 0, -1, 0), R(0, 0, 2, 1), R(0, 0, 0, 4), R(0, 0, 4, 4), R(0, 0, 0, 0, 0, 0, math.MinInt, math.MaxInt), R(0, 0, 0, math.MaxInt)} {
		if l, e := region.Edits("abc", r); e != api.ErrRange || len(l) != 0 {
			t.Errorf("%v: %v %d", r, l, e)
		}
	}
}
