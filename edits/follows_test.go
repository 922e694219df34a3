package edits_test

import (
	"testing"

	"rootstock/api"
	"rootstock/edits"
)

func TestWhatIsNotEditedStays(t *testing.T) {
	for _, text := range append(small(), full) {
		for _, e := range near(min(len(text), 5)) {
			s, f := edits.Apply(text, e)
			if f != api.OK {
				continue
			}
			if len(s) != len(text)-(e.End-e.Start)+len(e.Text) {
				t.Errorf("%.20q (%s): %d bytes", text, show(e), len(s))
			}
			if s[:e.Start] != text[:e.Start] || s[e.Start:e.Start+len(e.Text)] != e.Text || s[e.Start+len(e.Text):] != text[e.End:] {
				t.Errorf("%.20q (%s): %.20q", text, show(e), s)
			}
			// Where no byte goes, End is Start, which stays where it is, ahead of what comes.
			if e.Start < e.End && s[edits.At(e, e.End):] != text[e.End:] {
				t.Errorf("%.20q (%s): end at %d", text, show(e), edits.At(e, e.End))
			}
			if behind := e.End + 1; behind <= len(text) && s[edits.At(e, behind):] != text[behind:] {
				t.Errorf("%.20q (%s): behind %d", text, show(e), behind)
			}
		}
	}
}

func TestUndoTakesBack(t *testing.T) {
	for _, text := range append(small(), full) {
		for _, e := range near(min(len(text), 5)) {
			s, f := edits.Apply(text, e)
			u, g := edits.Undo(text, e)
			if f != g {
				t.Errorf("%.20q (%s): %v, %v", text, show(e), f, g)
			}
			if f != api.OK {
				continue
			}
			if back, h := edits.Apply(s, u); back != text || h != api.OK {
				t.Errorf("%.20q (%s): back %.20q, %v", text, show(e), back, h)
			}
		}
	}
}

func moved(e, other api.Edit) api.Edit {
	return edit(edits.At(other, e.Start), edits.At(other, e.End), e.Text)
}

func TestEitherEditFirst(t *testing.T) {
	text := "abcde"
	pairs := 0
	for _, a := range near(len(text)) {
		for _, b := range near(len(text)) {
			if !fits(len(text), a) || !fits(len(text), b) || a.End >= b.Start {
				continue
			}
			pairs++
			one, told := edits.Fold(text, []api.Edit{a, moved(b, a)})
			two, told2 := edits.Fold(text, []api.Edit{b, moved(a, b)})
			if one != two || told[0] != api.OK || told[1] != api.OK || told2[0] != api.OK || told2[1] != api.OK {
				t.Errorf("(%s) (%s): %q %v, %q %v", show(a), show(b), one, told, two, told2)
			}
		}
	}
	if pairs == 0 {
		t.Error("no pair was tried")
	}
}
