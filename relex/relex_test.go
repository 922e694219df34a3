package relex_test

import (
	"reflect"
	"slices"
	"strings"
	"testing"

	"rootstock/api"
	"rootstock/relex"
)

func TestNew(t *testing.T) {
	d := dice(1)
	for _, text := range texts(4, "a(\n ") {
		is(t, language, scan(t, language, text), text)
	}
	for range 500 {
		text := d.line(d.roll(30))
		is(t, language, scan(t, language, text), text)
		by := d.mixed()
		text = d.text(d.roll(30), "ab\t\x00\xff")
		is(t, by, scan(t, by, text), text)
	}
}

func TestWhatANewOneComesTo(t *testing.T) {
	s := scan(t, language, "if a:\n  b")
	want := api.Lexed{
		Raws: []api.Raw{{Kind: api.KIf, Len: 2, Look: 3}, {Kind: api.KSpace, Len: 1, Look: 2}, {Kind: api.KName, Len: 1, Look: 2}, {Kind: api.KColon, Len: 1, Look: 1}, {Kind: api.KNewline, Len: 1, Look: 1}, {Kind: api.KSpace, Len: 2, Look: 3}, {Kind: api.KName, Len: 1, Look: 2}},
		Marks: []api.Mark{
			{Cols: []int{0}, Fresh: true}, {Cols: []int{0}}, {Cols: []int{0}, Lead: 1}, {Cols: []int{0}}, {Cols: []int{0}}, {Cols: []int{0}, Fresh: true}, {Cols: []int{0}, Fresh: true, Col: 2, Lead: 2}, {Cols: []int{0, 2}},
		},
		Counts: []int{0, 1, 1, 2, 3, 4, 4, 6},
		Tokens: []api.Token{{Kind: api.KIf, Width: 2}, {Kind: api.KName, Lead: 1, Width: 1}, {Kind: api.KColon, Width: 1}, {Kind: api.KNewline, Width: 1}, {Kind: api.KIndent, Lead: 2}, {Kind: api.KName, Width: 1}, {Kind: api.KNewline}, {Kind: api.KDedent}, {Kind: api.KEnd}},
	}
	if x := s.Lexed(); !reflect.DeepEqual(x, want) || s.Text() != "if a:\n  b" {
		t.Errorf("%q: %v", s.Text(), x)
	}
}

func TestEmptyText(t *testing.T) {
	for _, by := range []scanner{language, {nil, flat(1, 1)}, {[]api.Rule{}, flat(2048, 2)}, {kinds(1, 2, 3), single('a', 2)}} {
		s := scan(t, by, "")
		x := s.Lexed()
		if len(x.Raws) > 0 || len(x.Marks) != 1 || !sameMark(x.Marks[0], api.Mark{Cols: []int{0}, Fresh: true}) || !slices.Equal(x.Counts, []int{0}) || !slices.Equal(x.Tokens, []api.Token{{Kind: api.KEnd}}) || s.Text() != "" {
			t.Errorf("%q: %v", s.Text(), x)
		}
	}
}

func TestKindsOfRules(t *testing.T) {
	// A piece has the kind of its rule, be it made by New or behind an edit, and whatever kind that is; the others are bad.
	for _, k := range []int{0, api.KBad, api.KNewline, api.KSpace, api.KEnd, -1, 1000, -1 << 62} {
		for rule := range api.MaxRules {
			l := times(api.MaxRules, api.KColon)
			l[rule] = k
			by := scanner{kinds(l...), single('a', rule)}
			n, r := holds(t, by, scan(t, by, "ba"), edit(1, 1, "ab"))
			is(t, by, n, "baba")
			if l := r.Lexed.Raws; l[0].Kind != api.KBad || l[1].Kind != k || l[2].Kind != api.KBad || l[3].Kind != k {
				t.Errorf("%v", l)
			}
		}
	}
	// There may be more rules than the automaton names.
	by := scanner{kinds(append(times(999, 5), 6)...), single('a', 47)}
	holds(t, by, scan(t, by, "aba"), edit(0, 1, "ba"))
}

func TestScansThatAreNotThere(t *testing.T) {
	for i, s := range []*relex.Scan{nil, {}, new(relex.Scan)} {
		if s.Text() != "" || !reflect.DeepEqual(s.Lexed(), api.Lexed{}) {
			t.Errorf("%d: %q, %v", i, s.Text(), s.Lexed())
		}
		// ErrNil comes ahead of whatever the edit is.
		for _, e := range append(wild(), edit(0, 0, ""), edit(0, 0, "a"), edit(0, 1, ""), edit(0, 0, strings.Repeat("a", api.MaxText)), edit(0, 0, strings.Repeat("a", api.MaxText+1)), edit(2, 1, strings.Repeat("a", api.MaxText+1))) {
			if n, r, f := s.Edit(e); n != nil || f != api.ErrNil || !reflect.DeepEqual(r, api.Relexed{}) {
				t.Errorf("%d, %v: %v, %v", i, e, r, f)
			}
		}
	}
}
