package patch_test

import (
	"math"
	"slices"
	"strings"
	"testing"

	"notary/api"
	"notary/patch"
)

type edits = []api.Edit

var cases = []struct {
	text    string
	edits   edits
	want    string
	regions []api.Region
}{
	{"abcdef", edits{{From: 1, To: 2, Text: "XY"}, {From: 4, To: 4, Text: "Z"}}, "aXYcdZef", []api.Region{{FromP: 1, ToP: 2, FromQ: 1, ToQ: 3}, {FromP: 4, ToP: 4, FromQ: 5, ToQ: 6}}},
	{"abcdef", nil, "abcdef", nil},
	{"", edits{{Text: "new"}}, "new", []api.Region{{ToQ: 3}}},
	{"abc", edits{{From: 0, To: 3}}, "", []api.Region{{ToP: 3}}},
	{"abc", edits{{From: 0, To: 0, Text: "x"}, {From: 1, To: 1, Text: "y"}, {From: 2, To: 2, Text: ""}, {From: 3, To: 3, Text: "z"}}, "xaybcz", []api.Region{{ToQ: 1}, {FromP: 1, ToP: 1, FromQ: 2, ToQ: 3}, {FromP: 2, ToP: 2, FromQ: 4, ToQ: 4}, {FromP: 3, ToP: 3, FromQ: 5, ToQ: 6}}},
	{"abcdef", edits{{From: 0, To: 2, Text: "A"}, {From: 3, To: 6, Text: "longer"}}, "Aclonger", []api.Region{{ToP: 2, ToQ: 1}, {FromP: 3, ToP: 6, FromQ: 2, ToQ: 8}}},
}

// orders is all orders of a list.
func orders(l edits) []edits {
	if len(l) == 0 {
		return []edits{nil}
	}
	var out []edits
	for i := range l {
		for _, rest := range orders(append(slices.Clone(l[:i]), l[i+1:]...)) {
			out = append(out, append(edits{l[i]}, rest...))
		}
	}
	return out
}

func TestAll(t *testing.T) {
	for _, c := range cases {
		for _, l := range orders(c.edits) {
			kept := slices.Clone(l)
			q, e := patch.Apply(c.text, l)
			r, f := patch.Regions(c.text, l)
			b, g := patch.Back(c.text, l)
			if q != c.want || e != api.OK || !slices.Equal(r, c.regions) || f != api.OK || g != api.OK {
				t.Errorf("%q %v: %q %d %v %d", c.text, l, q, e, r, f)
			}
			if !slices.Equal(l, kept) {
				t.Errorf("%v is changed to %v", kept, l)
			}
			if p, e := patch.Apply(q, b); p != c.text || e != api.OK || len(b) != len(c.regions) {
				t.Errorf("%q does not come back: %q", c.text, p)
			}
			for i, x := range b {
				if x != (api.Edit{From: c.regions[i].FromQ, To: c.regions[i].ToQ, Text: c.text[c.regions[i].FromP:c.regions[i].ToP]}) {
					t.Errorf("back: %v", b)
				}
			}
		}
	}
}

// TestOutside: outside of the regions both texts are the same.
func TestOutside(t *testing.T) {
	for _, c := range cases {
		p, q := 0, 0
		r, _ := patch.Regions(c.text, c.edits)
		for _, x := range append(r, api.Region{FromP: len(c.text), FromQ: len(c.want)}) {
			if c.text[p:x.FromP] != c.want[q:x.FromQ] {
				t.Errorf("%q and %q", c.text, c.want)
			}
			p, q = x.ToP, x.ToQ
		}
	}
}

func TestErrors(t *testing.T) {
	full := strings.Repeat("x", api.MaxSource)
	for _, c := range []struct {
		text  string
		edits edits
		e     api.Errno
	}{
		{"abc", edits{{From: -1, To: 1}}, api.ErrRange}, {"abc", edits{{From: 2, To: 1}}, api.ErrRange}, {"abc", edits{{From: 2, To: 4}}, api.ErrRange}, {"abc", edits{{From: 4, To: 4}}, api.ErrRange}, {"abc", edits{{From: math.MinInt, To: math.MaxInt}}, api.ErrRange},
		{"abc", edits{{From: 1, To: 2}, {From: 2, To: 3}}, api.ErrOrder}, {"abc", edits{{From: 2, To: 3}, {From: 1, To: 2}}, api.ErrOrder}, {"abc", edits{{From: 0, To: 3}, {From: 1, To: 1}}, api.ErrOrder}, {"abc", edits{{From: 1, To: 1}, {From: 1, To: 1}}, api.ErrOrder}, {"abc", edits{{From: 1, To: 1, Text: "x"}, {From: 1, To: 3}}, api.ErrOrder}, {"abc", edits{{From: 1, To: 3}, {From: 1, To: 1}}, api.ErrOrder}, {"", edits{{}, {}}, api.ErrOrder},
		{"abc", edits{{From: 1, To: 2}, {From: 2, To: 3}, {From: 3, To: 9}}, api.ErrRange},
		{full, edits{{Text: "y"}}, api.ErrLong}, {full + "x", nil, api.ErrLong}, {"abc", edits{{Text: full}}, api.ErrLong},
		{full, edits{{Text: "y"}, {}}, api.ErrOrder}, {full, edits{{Text: "y"}, {From: 1, To: -1}}, api.ErrRange},
	} {
		q, e := patch.Apply(c.text, c.edits)
		r, f := patch.Regions(c.text, c.edits)
		b, g := patch.Back(c.text, c.edits)
		if q != "" || e != c.e || len(r) != 0 || f != c.e || len(b) != 0 || g != c.e {
			t.Errorf("%.20q %v: %d %d %d, not %d", c.text, c.edits, e, f, g, c.e)
		}
	}
	if q, e := patch.Apply(full, edits{{From: 0, To: 1, Text: "y"}}); e != api.OK || len(q) != api.MaxSource {
		t.Error("just as long as may be")
	}
	if q, e := patch.Apply(full+"xx", edits{{From: 0, To: 2}}); e != api.OK || q != full {
		t.Error("a text that gets shorter")
	}
}

func TestRoomBehindTheEnd(t *testing.T) {
	room := append(make(edits, 0, 4), api.Edit{From: 2, To: 2, Text: "b"}, api.Edit{From: 0, To: 0, Text: "a"})
	patch.Apply("xyz", room)
	patch.Back("xyz", room)
	if room[:4][2] != (api.Edit{}) || room[0].Text != "b" {
		t.Error("the room behind the end was written")
	}
}
