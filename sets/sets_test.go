package sets_test

import (
	"strings"
	"testing"

	"rootstock/api"
	"rootstock/sets"
)

func TestExamples(t *testing.T) {
	s := sets.Of("cab")
	if n := sets.Count(s); n != 3 {
		t.Errorf("count: %d", n)
	}
	if m := sets.Members(s); m != "abc" {
		t.Errorf("members: %q", m)
	}
	if !sets.Has(s, 'b') || sets.Has(s, 'd') {
		t.Error("has")
	}
	if r := sets.Range('a', 'c'); r != s {
		t.Errorf("range: %v", r)
	}
	if r := sets.Range('b', 'a'); r != (api.Set{}) {
		t.Errorf("range of none: %v", r)
	}
}

func TestHas(t *testing.T) {
	for _, x := range []struct {
		b byte
		s api.Set
	}{
		{0, api.Set{1, 0, 0, 0}}, {63, api.Set{1 << 63, 0, 0, 0}}, {64, api.Set{0, 1, 0, 0}}, {127, api.Set{0, 1 << 63, 0, 0}},
		{128, api.Set{0, 0, 1, 0}}, {191, api.Set{0, 0, 1 << 63, 0}}, {192, api.Set{0, 0, 0, 1}}, {255, api.Set{0, 0, 0, 1 << 63}},
		{'a', api.Set{0, 1 << ('a' - 64), 0, 0}},
	} {
		for n := 0; n < 256; n++ {
			if in := sets.Has(x.s, byte(n)); in != (byte(n) == x.b) {
				t.Errorf("%d in the set of %d: %v", n, x.b, in)
			}
		}
	}
	for _, s := range samples() {
		for n, want := range flagged(s) {
			if in := sets.Has(s, byte(n)); in != want {
				t.Errorf("%x, %d: %v", s, n, in)
			}
		}
	}
}

func TestOf(t *testing.T) {
	l := []string{
		"", "a", "aa", "cab", "abcabc", "\x00", "\xff", "\x00\x3f\x40\x7f\x80\xff", "\xff\x80\x7f\x40\x3f\x00", "\u00e9\u65e5", "\xc3\x28",
		"[a-c]", "[^]", `\n`, "\n\t\r", every(), every()[1:], every()[:255], every()[128:] + every()[:129], strings.Repeat("xyz", api.MaxText),
	}
	for n := 0; n < 256; n++ {
		l = append(l, every()[n:n+1])
	}
	for _, text := range l {
		if s := sets.Of(text); s != of(text) {
			t.Errorf("%.20q: %x", text, s)
		}
	}
}

func TestRange(t *testing.T) {
	for a := 0; a < 256; a++ {
		for b := 0; b < 256; b++ {
			if a%5 != 0 && b%7 != 0 && a != b && a != b+1 {
				continue
			}
			if s := sets.Range(byte(a), byte(b)); s != span(a, b) {
				t.Errorf("%d to %d: %x", a, b, s)
			}
		}
	}
	for _, a := range edges {
		for _, b := range edges {
			if s := sets.Range(byte(a), byte(b)); s != span(a, b) {
				t.Errorf("%d to %d: %x", a, b, s)
			}
		}
	}
}

func TestUnionMeetNot(t *testing.T) {
	l := samples()
	for _, s := range l {
		f := flagged(s)
		if not, want := sets.Not(s), made(func(n int) bool { return !f[n] }); not != want {
			t.Errorf("not %x: %x", s, not)
		}
		for _, u := range l {
			g := flagged(u)
			if union, want := sets.Union(s, u), made(func(n int) bool { return f[n] || g[n] }); union != want {
				t.Errorf("%x or %x: %x", s, u, union)
			}
			if meet, want := sets.Meet(s, u), made(func(n int) bool { return f[n] && g[n] }); meet != want {
				t.Errorf("%x and %x: %x", s, u, meet)
			}
		}
	}
}

func TestCountAndMembers(t *testing.T) {
	l := samples()
	for n := 0; n < 256; n++ {
		l = append(l, span(0, n), span(n, 255), span(n, n))
	}
	for _, s := range l {
		want := ""
		for n, in := range flagged(s) {
			if in {
				want += every()[n : n+1]
			}
		}
		if m := sets.Members(s); m != want {
			t.Errorf("%x: %q", s, m)
		}
		if n := sets.Count(s); n != len(want) {
			t.Errorf("%x: %d", s, n)
		}
	}
}
