package indent_test

import (
	"reflect"
	"slices"
	"testing"

	"rootstock/api"
	"rootstock/indent"
)

func TestFirst(t *testing.T) {
	want := api.Mark{Cols: []int{0}, Open: 0, Col: 0, Fresh: true, Lead: 0}
	m := indent.First()
	if !reflect.DeepEqual(m, want) {
		t.Errorf("%v", m)
	}
	// Whoever has it may do with it what they will.
	m.Cols[0] = 9
	if m := indent.First(); !reflect.DeepEqual(m, want) {
		t.Errorf("%v", m)
	}
	ends(t, want, token(api.KEnd, 0, 0))
}

func TestExamples(t *testing.T) {
	reads(t, "", token(api.KEnd, 0, 0))
	reads(t, "  ", token(api.KEnd, 2, 0))
	reads(t, "a\n", token(api.KName, 0, 1), token(api.KNewline, 0, 1), token(api.KEnd, 0, 0))
	reads(t, "if a:\n  b", token(api.KIf, 0, 2), token(api.KName, 1, 1), token(api.KColon, 0, 1), token(api.KNewline, 0, 1), token(api.KIndent, 2, 0), token(api.KName, 0, 1), token(api.KNewline, 0, 0), token(api.KDedent, 0, 0), token(api.KEnd, 0, 0))
	reads(t, "(a\nb)\n\n", token(api.KOpen, 0, 1), token(api.KName, 0, 1), token(api.KName, 1, 1), token(api.KClose, 0, 1), token(api.KNewline, 0, 1), token(api.KEnd, 1, 0))
	reads(t, "    a\n  b\n", token(api.KIndent, 4, 0), token(api.KName, 0, 1), token(api.KNewline, 0, 1), token(api.KDedent, 2, 0), token(api.KBad, 0, 0), token(api.KName, 0, 1), token(api.KNewline, 0, 1), token(api.KEnd, 0, 0))
	reads(t, "\ta\n        b", token(api.KIndent, 1, 0), token(api.KName, 0, 1), token(api.KNewline, 0, 1), token(api.KName, 8, 1), token(api.KNewline, 0, 0), token(api.KDedent, 0, 0), token(api.KEnd, 0, 0))
	reads(t, "a ##\n   ", token(api.KName, 0, 1), token(api.KNewline, 3, 1), token(api.KEnd, 3, 0))
}

func TestMoreTexts(t *testing.T) {
	name, line, end := token(api.KName, 0, 1), token(api.KNewline, 0, 1), token(api.KEnd, 0, 0)
	// Several blocks end at once; a column between two of them.
	blocks := []api.Token{name, line, token(api.KIndent, 1, 0), name, line, token(api.KIndent, 3, 0), name, line}
	reads(t, "a\n a\n   a\na", slices.Concat(blocks, []api.Token{token(api.KDedent, 0, 0), token(api.KDedent, 0, 0), name, token(api.KNewline, 0, 0), end})...)
	reads(t, "a\n a\n   a\n a", slices.Concat(blocks, []api.Token{token(api.KDedent, 1, 0), name, token(api.KNewline, 0, 0), token(api.KDedent, 0, 0), end})...)
	reads(t, "a\n a\n   a\n  a", slices.Concat(blocks, []api.Token{token(api.KDedent, 2, 0), token(api.KBad, 0, 0), name, token(api.KNewline, 0, 0), token(api.KDedent, 0, 0), end})...)
	reads(t, "a\n a\n   a\n   a\n", slices.Concat(blocks, []api.Token{token(api.KName, 3, 1), line, token(api.KDedent, 0, 0), token(api.KDedent, 0, 0), end})...)
	// A column between two is told as bad each time that a line begins there, as no block is open there.
	reads(t, "  a\n a\n a", token(api.KIndent, 2, 0), name, line, token(api.KDedent, 1, 0), token(api.KBad, 0, 0), name, line, token(api.KIndent, 1, 0), name, token(api.KNewline, 0, 0), token(api.KDedent, 0, 0), end)
	// Lines of blanks and remarks alone; a line end of two bytes; one that is no token.
	reads(t, "a\n # x\n\n\t\nb", name, line, token(api.KName, 8, 1), token(api.KNewline, 0, 0), end)
	reads(t, "a\r\n\r\n b", name, token(api.KNewline, 0, 2), token(api.KIndent, 3, 0), name, token(api.KNewline, 0, 0), token(api.KDedent, 0, 0), end)
	reads(t, "\n", token(api.KEnd, 1, 0))
	reads(t, "#", token(api.KEnd, 1, 0))
	// A line that goes on: within a line, and where one begins.
	reads(t, "a\\\n  b\n", name, token(api.KName, 4, 1), line, end)
	reads(t, " \\\n b", token(api.KIndent, 4, 0), name, token(api.KNewline, 0, 0), token(api.KDedent, 0, 0), end)
	reads(t, "\\\na", token(api.KName, 2, 1), token(api.KNewline, 0, 0), end)
	// Brackets that stay open, and one that was never opened.
	reads(t, "(\n  a\n", token(api.KOpen, 0, 1), token(api.KName, 3, 1), token(api.KNewline, 0, 0), token(api.KEnd, 1, 0))
	reads(t, ")\n  a", token(api.KClose, 0, 1), line, token(api.KIndent, 2, 0), name, token(api.KNewline, 0, 0), token(api.KDedent, 0, 0), end)
	reads(t, "((a)\n)\n a", token(api.KOpen, 0, 1), token(api.KOpen, 0, 1), name, token(api.KClose, 0, 1), token(api.KClose, 1, 1), line, token(api.KIndent, 1, 0), name, token(api.KNewline, 0, 0), token(api.KDedent, 0, 0), end)
	// What the scanner has no rule for is a token, too.
	reads(t, " ?\n", token(api.KIndent, 1, 0), token(api.KBad, 0, 1), line, token(api.KDedent, 0, 0), end)
}

func TestCountsMarksAndPieces(t *testing.T) {
	text := "if a:\n  b # x\n \n"
	l := scanned(t, text)
	x := lexed(t, text, l)
	if !slices.Equal(x.Raws, l) || !slices.Equal(x.Counts, []int{0, 1, 1, 2, 3, 4, 4, 6, 6, 6, 7, 7, 7}) {
		t.Errorf("%v, %v", x.Raws, x.Counts)
	}
	want := []api.Mark{fresh(0, 0), within(0, 0), within(1, 0), within(0, 0), within(0, 0), fresh(0, 0), fresh(2, 2), within(0, 0, 2), within(1, 0, 2), within(4, 0, 2), fresh(0, 0, 2), fresh(1, 1, 2), fresh(2, 0, 2)}
	if !reflect.DeepEqual(x.Marks, want) {
		t.Errorf("%v, not %v", x.Marks, want)
	}
	if n := len(x.Tokens); n != 9 || !slices.Equal(x.Tokens[7:], []api.Token{token(api.KDedent, 0, 0), token(api.KEnd, 2, 0)}) {
		t.Errorf("%v", x.Tokens)
	}
}

func TestEmptyText(t *testing.T) {
	for _, l := range [][]api.Raw{nil, {}} {
		x := lexed(t, "", l)
		if len(x.Raws) != 0 || !reflect.DeepEqual(x.Marks, []api.Mark{indent.First()}) || !slices.Equal(x.Counts, []int{0}) || !slices.Equal(x.Tokens, []api.Token{{Kind: api.KEnd}}) {
			t.Errorf("%v", x)
		}
	}
}

func TestMixedPiecesByTheWords(t *testing.T) {
	d := dice(1)
	for range 6000 {
		text, l := d.pieces(d.roll(30))
		if x, want := lexed(t, text, l), allByTheWords(text, l); !alike(x, want) {
			t.Fatalf("%q, %v: %v, not %v", text, l, x, want)
		}
	}
}

func TestMixedLinesByTheWords(t *testing.T) {
	d := dice(2)
	seen := map[int]int{}
	for range 3000 {
		text := d.line(d.roll(30))
		l := scanned(t, text)
		x := lexed(t, text, l)
		if want := allByTheWords(text, l); !alike(x, want) {
			t.Fatalf("%q, %v: %v, not %v", text, l, x, want)
		}
		for _, k := range x.Tokens {
			seen[k.Kind]++
		}
	}
	if seen[api.KIndent] < 1000 || seen[api.KDedent] < 1000 || seen[api.KBad] < 1000 || seen[api.KNewline] < 1000 {
		t.Errorf("%v", seen)
	}
}

func TestAllSmallListsOfPieces(t *testing.T) {
	// All rows of up to five of the pieces that lay a text.
	parts := []struct {
		kind int
		text string
	}{{api.KSpace, " "}, {api.KSpace, "\t "}, {api.KNewline, "\n"}, {api.KName, "a"}, {api.KOpen, "("}, {api.KClose, ")"}, {api.KComment, "#"}}
	var walk func(n int, text string, l []api.Raw)
	walk = func(n int, text string, l []api.Raw) {
		if x, want := lexed(t, text, l), allByTheWords(text, l); !alike(x, want) {
			t.Errorf("%q, %v: %v, not %v", text, l, x, want)
		}
		for _, p := range parts {
			if n > 0 {
				walk(n-1, text+p.text, append(slices.Clone(l), api.Raw{Kind: p.kind, Len: len(p.text), Look: 9}))
			}
		}
	}
	walk(5, "", nil)
}

func TestWhatIsLookedAtMakesNoDifference(t *testing.T) {
	for _, look := range []int{-1, 0, 1, 2, 1 << 40} {
		next, l := indent.Step(fresh(1, 1), "a", api.Raw{Kind: api.KName, Len: 1, Look: look})
		if !reflect.DeepEqual(next, within(0, 0, 1)) || !slices.Equal(l, []api.Token{token(api.KIndent, 1, 0), token(api.KName, 0, 1)}) {
			t.Errorf("%d: %v, %v", look, next, l)
		}
		x := lexed(t, "a", []api.Raw{{Kind: api.KName, Len: 1, Look: look}})
		if x.Raws[0].Look != look || len(x.Tokens) != 3 {
			t.Errorf("%d: %v", look, x)
		}
	}
}
