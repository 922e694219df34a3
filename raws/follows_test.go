package raws_test

import (
	"slices"
	"testing"

	"rootstock/api"
	"rootstock/edits"
)

// scanner is rules and an automaton.
type scanner struct {
	rules []api.Rule
	d     api.Dfa
}

// both are the language's scanner, and mixed ones, each with texts for it.
func both(d *dice, each func(s scanner, text string)) {
	for range 400 {
		each(scanner{language, own}, d.line(d.roll(10)))
	}
	for _, text := range texts(4, "a'\r\n") {
		each(scanner{language, own}, text)
	}
	for range 400 {
		s := scanner{kinds(d.roll(30), d.roll(30), d.roll(30)), d.plain(3)}
		for range 4 {
			each(s, d.text(d.roll(10), "abc"))
		}
	}
}

func TestPiecesAreTheText(t *testing.T) {
	d := dice(6)
	both(&d, func(s scanner, text string) {
		n := 0
		for _, p := range told(t, s.rules, s.d, text) {
			n += p.Len
			if p.Len < 1 || p.Look < p.Len || n > len(text) {
				t.Errorf("%v, %q: %v, of which %d bytes are come to", s.d, text, p, n)
			}
		}
		if n != len(text) {
			t.Errorf("%v, %q: %d bytes", s.d, text, n)
		}
	})
}

func TestWhatIsLeftWhereAPieceBegins(t *testing.T) {
	d := dice(7)
	seen := 0
	both(&d, func(s scanner, text string) {
		l := told(t, s.rules, s.d, text)
		at := 0
		for i, p := range l {
			if left := told(t, s.rules, s.d, text[at:]); !slices.Equal(left, l[i:]) {
				t.Errorf("%v, %q at %d: %v, not %v", s.d, text, at, left, l[i:])
			}
			at += p.Len
			seen += sign(i > 0)
		}
		if left := told(t, s.rules, s.d, text[at:]); len(left) > 0 {
			t.Errorf("%v, %q: %v is left", s.d, text, left)
		}
	})
	if seen < 3000 {
		t.Errorf("%d", seen)
	}
}

// ahead is how many pieces at the beginning end, with all that was looked at for them, at a place or ahead of it.
func ahead(l []api.Raw, place int) int {
	at := 0
	for i, p := range l {
		if at+p.Look > place {
			return i
		}
		at += p.Len
	}
	return len(l)
}

// stay holds that the pieces ahead of an edit are what they were, and tells how many these are, and whether the next one is so, too.
func stay(t *testing.T, s scanner, text string, e api.Edit) (n int, next bool) {
	t.Helper()
	behind, errno := edits.Apply(text, e)
	if errno != api.OK {
		t.Fatalf("%q, %v: %v", text, e, errno)
	}
	was, is := told(t, s.rules, s.d, text), told(t, s.rules, s.d, behind)
	n = ahead(was, e.Start)
	if len(is) < n || !slices.Equal(is[:n], was[:n]) {
		t.Errorf("%v, %q, %v: %v, which was %v, of which %d pieces stay", s.d, text, e, is, was, n)
	}
	return n, n < len(is) && n < len(was) && is[n] == was[n]
}

func TestPiecesAheadOfAnEdit(t *testing.T) {
	d := dice(8)
	kept, next := 0, map[bool]int{}
	both(&d, func(s scanner, text string) {
		for range 6 {
			start := d.roll(len(text) + 1)
			e := api.Edit{Start: start, End: start + d.roll(len(text)-start+1), Text: d.text(d.roll(4), "abc' \r\n")}
			n, same := stay(t, s, text, e)
			kept += n
			next[same]++
		}
	})
	// The piece behind these may be another one, or the same.
	if kept < 10000 || next[true] < 1000 || next[false] < 1000 {
		t.Errorf("%d, %v", kept, next)
	}
}

func TestAllSmallEdits(t *testing.T) {
	s := scanner{language, own}
	for _, text := range texts(3, "i'\\\r\n") {
		for start := range len(text) + 1 {
			for end := start; end <= len(text); end++ {
				for _, comes := range []string{"", "f", "'", "\n", "\r\n"} {
					stay(t, s, text, api.Edit{Start: start, End: end, Text: comes})
				}
			}
		}
	}
}

func TestHowManyPiecesStay(t *testing.T) {
	s := scanner{language, own}
	for _, x := range []struct {
		text string
		e    api.Edit
		n    int
		next bool
	}{
		// What was looked at behind a piece counts, not its bytes alone.
		{"a b", api.Edit{Start: 1, End: 1, Text: "x"}, 0, false}, {"a b", api.Edit{Start: 2, End: 3, Text: "x"}, 1, true}, {"(b", api.Edit{Start: 1, End: 1, Text: "("}, 1, false}, {"i (", api.Edit{Start: 1, End: 1, Text: "f"}, 0, false},
		{"'a", api.Edit{Start: 2, End: 2, Text: "'"}, 0, false}, {"'a\nb", api.Edit{Start: 2, End: 3}, 0, false}, {"'a\nb", api.Edit{Start: 3, End: 4, Text: "'"}, 3, false}, {"#a\nb", api.Edit{Start: 2, End: 3}, 0, false}, {"#a\nb", api.Edit{Start: 3, End: 3, Text: "?"}, 2, false},
		// One that ends far enough ahead is none of them behind one that does not.
		{"'a(b", api.Edit{Start: 3, End: 4, Text: "c"}, 0, true}, {"'a(b", api.Edit{Start: 3, End: 3, Text: "'"}, 0, false},
		// The text's end was looked at: what comes there may make a piece longer, or not.
		{"a", api.Edit{Start: 1, End: 1, Text: "b"}, 0, false}, {"(", api.Edit{Start: 1, End: 1, Text: "b"}, 1, false}, {"\r", api.Edit{Start: 1, End: 1, Text: "\n"}, 0, false}, {"a ?", api.Edit{Start: 3, End: 3, Text: "?"}, 3, false}, {"", api.Edit{Text: "a"}, 0, false},
	} {
		if n, next := stay(t, s, x.text, x.e); n != x.n || next != x.next {
			t.Errorf("%q, %v: %d, %v, not %d, %v", x.text, x.e, n, next, x.n, x.next)
		}
	}
}
