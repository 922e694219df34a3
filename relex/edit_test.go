package relex_test

import (
	"slices"
	"testing"

	"rootstock/api"
)

func TestExamples(t *testing.T) {
	name := api.Token{Kind: api.KName, Width: 1}
	line, end := api.Token{Kind: api.KNewline}, api.Token{Kind: api.KEnd}
	for i, x := range []struct {
		text                   string
		e                      api.Edit
		want                   []api.Token
		ahead, behind, scanned int
	}{
		{"a + b", edit(4, 5, "cd"), []api.Token{name, {Kind: api.KPlus, Lead: 1, Width: 1}, {Kind: api.KName, Lead: 1, Width: 2}, line, end}, 2, 2, 2},
		{"a + b", edit(1, 2, ""), []api.Token{name, {Kind: api.KPlus, Width: 1}, {Kind: api.KName, Lead: 1, Width: 1}, line, end}, 1, 3, 2},
		{"a + b", edit(0, 0, ""), []api.Token{name, {Kind: api.KPlus, Lead: 1, Width: 1}, {Kind: api.KName, Lead: 1, Width: 1}, line, end}, 5, 0, 0},
		{"i (", edit(1, 1, "f"), []api.Token{{Kind: api.KIf, Width: 2}, {Kind: api.KOpen, Lead: 1, Width: 1}, line, end}, 0, 3, 1},
	} {
		n, r := change(t, scan(t, language, x.text), x.e)
		if !slices.Equal(r.Lexed.Tokens, x.want) || r.Ahead != x.ahead || r.Behind != x.behind || r.Scanned != x.scanned {
			t.Errorf("%d: %v, %d, %d, %d", i, r.Lexed.Tokens, r.Ahead, r.Behind, r.Scanned)
		}
		is(t, language, n, applied(t, x.text, x.e))
		tells(t, x.text, x.e, x.ahead, x.behind, x.scanned)
	}
}

func TestWhereEditsStand(t *testing.T) {
	const text = "abc = (1 + de)\nf\n"
	// At the beginning; at the end, by which the text's last piece has not been looked beyond; of the whole text.
	tells(t, text, edit(0, 0, "x"), 0, 10, 1)
	tells(t, text, edit(0, 1, ""), 0, 10, 1)
	tells(t, text, edit(0, 0, "\n"), 0, 10, 2)
	tells(t, text, edit(17, 17, "x"), 10, 1, 1)
	tells(t, text, edit(17, 17, "\n"), 10, 0, 1)
	tells(t, text, edit(16, 17, ""), 9, 1, 1)
	tells(t, text, edit(0, 17, ""), 0, 1, 0)
	tells(t, text, edit(0, 17, "x"), 0, 1, 1)
	tells(t, text, edit(0, 17, "f\n"), 0, 3, 2)
	// In the middle of a piece, and between two.
	tells(t, text, edit(1, 2, "x"), 11, 0, 1)
	tells(t, text, edit(1, 2, ""), 0, 10, 1)
	tells(t, text, edit(1, 2, "+"), 0, 10, 3)
	tells(t, text, edit(6, 6, "("), 3, 0, 12)
	tells(t, text, edit(7, 7, "2"), 3, 7, 1)
	tells(t, text, edit(14, 14, "\n"), 8, 2, 3)
	// Of some pieces, and beyond them.
	tells(t, text, edit(6, 8, ""), 2, 6, 5)
	tells(t, text, edit(2, 12, ""), 1, 5, 2)
}

func TestTheEmptyText(t *testing.T) {
	tells(t, "", edit(0, 0, ""), 1, 0, 0)
	tells(t, "", edit(0, 0, " "), 0, 0, 1)
	tells(t, "", edit(0, 0, "a"), 0, 1, 1)
	tells(t, "", edit(0, 0, "(a)\n"), 0, 1, 4)
	tells(t, " ", edit(0, 1, ""), 0, 0, 0)
	tells(t, "a", edit(0, 1, ""), 0, 1, 0)
	tells(t, "a", edit(0, 1, "b"), 3, 0, 1)
	tells(t, "\n", edit(1, 1, "\n"), 0, 0, 1)
}

func TestNothingNew(t *testing.T) {
	const text = "if a:\n  'x' # b\n  (c\n)"
	s := scan(t, language, text)
	all := len(s.Lexed().Tokens)
	for start := range len(text) + 1 {
		for end := start; end <= len(text); end++ {
			// What stood there; so from where it stood on the old ones are there at once, or when what was looked at is done with.
			n, r := holds(t, language, s, edit(start, end, text[start:end]))
			is(t, language, n, text)
			if r.Ahead != all || r.Behind != 0 || r.back != (end < len(text)) {
				t.Errorf("%d to %d: %d, %d, %v", start, end, r.Ahead, r.Behind, r.back)
			}
		}
	}
	// No bytes: behind a piece that was looked beyond, behind one that was not, in the middle of one, and at the end.
	tells(t, text, edit(4, 4, ""), all, 0, 1)
	tells(t, text, edit(5, 5, ""), all, 0, 0)
	tells(t, text, edit(10, 10, ""), all, 0, 1)
	tells(t, text, edit(22, 22, ""), all, 0, 0)
	// All bytes: old ones may come back only behind what comes, and nothing is there.
	tells(t, text, edit(0, 22, text), all, 0, 15)
}

func TestBytesThatWereLookedAt(t *testing.T) {
	// Up to the edit's Start, and one beyond it: by a sign, a name, a number, blanks, a text, a bad byte, a remark.
	tells(t, "(+", edit(1, 2, "-"), 1, 2, 1)
	tells(t, "+(+", edit(1, 3, "-"), 1, 2, 1)
	tells(t, "a+", edit(1, 2, "-"), 1, 2, 2)
	tells(t, "a+-", edit(2, 3, "*"), 2, 2, 1)
	tells(t, "1+-", edit(2, 3, "*"), 2, 2, 1)
	tells(t, "1+-", edit(1, 2, "*"), 1, 3, 2)
	tells(t, "a b", edit(2, 3, "c"), 4, 0, 2)
	tells(t, "a bc", edit(3, 4, "d"), 4, 0, 1)
	tells(t, "'x'+", edit(3, 4, "-"), 1, 2, 1)
	tells(t, "'x'+", edit(2, 4, "-"), 0, 2, 3)
	tells(t, "'x\ny", edit(2, 3, ""), 1, 2, 2)
	tells(t, "'x\ny", edit(3, 4, "z"), 6, 0, 1)
	tells(t, "#x\ny", edit(2, 2, "z"), 0, 2, 3)
	tells(t, "#x\ny", edit(3, 4, "z"), 3, 0, 1)
	tells(t, "a\r\nb", edit(3, 3, "c"), 2, 2, 1)
	tells(t, "a\r\nb", edit(2, 2, "c"), 1, 3, 3)
	// The text's end was looked at.
	tells(t, "ab", edit(2, 2, ""), 3, 0, 1)
	tells(t, "ab", edit(2, 2, "c"), 0, 2, 1)
	tells(t, "ab", edit(2, 2, "("), 1, 2, 2)
	tells(t, "a+", edit(2, 2, "c"), 2, 2, 1)
	// A bad byte ahead of which more was looked at is not kept, and what stands behind it neither, though that alone could be.
	tells(t, "'ab cd+ef", edit(9, 9, "g"), 4, 2, 6)
	tells(t, "'ab cd+ef", edit(9, 9, "'"), 0, 2, 1)
	tells(t, "'ab cd+ef\n", edit(7, 7, "-"), 4, 3, 6)
}

func TestWhereOldOnesComeBack(t *testing.T) {
	// At once, or right behind what comes: where nothing that was looked at reaches the edit, and the mark is the one that was.
	tells(t, "(a)b", edit(1, 2, ""), 1, 4, 0)
	tells(t, "+\n+\n", edit(2, 2, "+\n"), 4, 1, 2)
	tells(t, "+\n+\n", edit(0, 2, ""), 2, 1, 0)
	tells(t, "+\n+\n+\n", edit(2, 4, ""), 4, 1, 0)
	// After some pieces.
	tells(t, "a+b+c+d", edit(1, 1, "+"), 2, 7, 2)
	tells(t, "a b c d", edit(1, 1, " b"), 4, 2, 3)
	tells(t, "a b c d", edit(1, 2, "  "), 1, 4, 3)
	tells(t, "a + 'b", edit(5, 5, "'"), 2, 3, 1)
	tells(t, "a 'b' c", edit(3, 3, "'"), 1, 3, 3)
	// At none.
	tells(t, "''' + ''", edit(0, 1, ""), 1, 2, 5)
	tells(t, "a + 'b", edit(6, 6, "'"), 2, 2, 1)
	tells(t, "a b", edit(0, 0, "#"), 0, 0, 1)
	tells(t, "a\nb\nc", edit(0, 0, "("), 0, 2, 6)
	// In the middle of what was one piece, though the mark could be the same, nothing comes back.
	tells(t, "+ab+", edit(0, 1, "-a"), 0, 3, 2)
	tells(t, "a(bcd", edit(3, 3, "+"), 2, 2, 3)
}

func TestPiecesThatBeginWhereOldOnesDo(t *testing.T) {
	// Another lead; a line's beginning that is none any more, or another column; other blocks; other brackets: the mark ahead is not the same.
	tells(t, "a + b", edit(1, 1, " "), 1, 3, 3)
	tells(t, "a# \nb", edit(1, 1, " "), 1, 3, 4)
	tells(t, "\nb\nc", edit(0, 1, "a "), 0, 5, 3)
	tells(t, "a\n b\nc", edit(2, 2, " "), 2, 6, 4)
	tells(t, "a\n b\n b\nc", edit(2, 2, " "), 2, 3, 7)
	tells(t, "a\n b\n c\nd", edit(1, 1, ":\n  x"), 1, 5, 11)
	tells(t, "(\na\n)\nb\n", edit(0, 1, "+"), 0, 4, 5)
	tells(t, ")a\nb", edit(0, 0, "("), 0, 6, 2)
	tells(t, ")\na\n", edit(0, 0, "("), 0, 5, 2)
}

func TestBlocksByEdits(t *testing.T) {
	const text = "if a:\n  b\n  c\nd\n"
	// A block begins, goes deeper, ends earlier, later, never, or not by blocks' columns.
	tells(t, "a\nb\nc\n", edit(2, 2, "  "), 2, 3, 4)
	tells(t, text, edit(10, 12, ""), 7, 3, 3)
	tells(t, text, edit(6, 8, ""), 4, 5, 4)
	tells(t, text, edit(8, 8, " "), 4, 3, 7)
	tells(t, text, edit(14, 14, "  "), 9, 1, 3)
	tells(t, text, edit(14, 14, " "), 9, 3, 2)
	tells(t, text, edit(16, 16, "   e"), 12, 1, 2)
	tells(t, text, edit(6, 13, ""), 4, 2, 2)
	tells(t, text, edit(6, 14, ""), 4, 3, 1)
	// A tabulator leads to the column that the blanks led to; the blocks are the same, but not the leads.
	tells(t, "a\n        b\nc", edit(2, 10, "\t"), 2, 6, 2)
}

func TestBracketsByEdits(t *testing.T) {
	const text = "a(b,\n  c\n)\nd\n"
	// Opened, shut, and both; one that is shut without having been opened changes nothing behind it.
	tells(t, text, edit(0, 0, "("), 0, 0, 13)
	tells(t, text, edit(4, 4, ")"), 4, 4, 6)
	tells(t, text, edit(1, 2, "+"), 1, 4, 9)
	tells(t, text, edit(9, 10, ""), 5, 0, 3)
	tells(t, text, edit(2, 2, "(e)"), 2, 8, 3)
	tells(t, text, edit(0, 0, ")"), 0, 10, 2)
	tells(t, text, edit(12, 12, ")"), 8, 2, 2)
	tells(t, text, edit(9, 9, "()"), 5, 4, 3)
}

func TestTokensThatStayAtBothEnds(t *testing.T) {
	// They are counted ahead, and those behind are no more than are left, of either list.
	tells(t, "+++", edit(1, 2, ""), 2, 2, 0)
	tells(t, "++", edit(1, 1, "+"), 2, 2, 1)
	tells(t, "++", edit(0, 0, "++"), 2, 2, 3)
	tells(t, "++++", edit(0, 2, ""), 2, 2, 1)
	tells(t, "a a a", edit(2, 4, ""), 2, 2, 1)
	tells(t, "a a", edit(1, 1, " a a"), 2, 2, 5)
	tells(t, "a\na\na\n", edit(2, 4, ""), 4, 1, 0)
	tells(t, "a\na\n", edit(2, 2, "a\na\n"), 4, 1, 4)
	tells(t, "a\n", edit(0, 0, "a\n"), 2, 1, 2)
}

func TestAllSmallEdits(t *testing.T) {
	n := 0
	for _, text := range texts(4, "a(\n ") {
		s := scan(t, language, text)
		for start := range len(text) + 1 {
			for end := start; end <= len(text); end++ {
				for _, comes := range []string{"", "a", ")", "\n", " ", "'"} {
					holds(t, language, s, edit(start, end, comes))
					n++
				}
			}
		}
		is(t, language, s, text)
	}
	if n < 20000 {
		t.Errorf("%d", n)
	}
}

// seen are how many edits there were of each sort.
type seen map[string]int

func (l seen) add(r told) {
	is := map[string]bool{
		"none kept": r.kept == 0, "some kept": r.kept > 0, "none scanned": r.Scanned == 0, "some scanned": r.Scanned > 0,
		"back": r.back, "back at once": r.back && r.Scanned == 0, "back after some": r.back && r.Scanned > 1, "not back": !r.back && r.Scanned > 1,
		"ahead": r.Ahead > 0, "behind": r.Behind > 1, "all ahead": r.Ahead == len(r.Lexed.Tokens),
	}
	for sort, so := range is {
		if so {
			l[sort]++
		}
	}
}

func (l seen) least() int {
	least := l["back"]
	for _, sort := range []string{"none kept", "some kept", "none scanned", "some scanned", "back", "back at once", "back after some", "not back", "ahead", "behind", "all ahead"} {
		least = min(least, l[sort])
	}
	return least
}

func TestMixedEditsByTheWords(t *testing.T) {
	d := dice(2)
	by := seen{}
	for range 400 {
		text := d.line(d.roll(30))
		s := scan(t, language, text)
		for range 20 {
			_, r := holds(t, language, s, d.of(text, d.line(d.roll(3))))
			by.add(r)
		}
	}
	if by.least() < 100 {
		t.Errorf("%v", by)
	}
}

func TestMixedScannersByTheWords(t *testing.T) {
	d := dice(3)
	by := seen{}
	for range 1500 {
		m := d.mixed()
		text := d.text(d.roll(20), "ab\t\x00\xff")
		s := scan(t, m, text)
		for range 8 {
			_, r := holds(t, m, s, d.of(text, d.text(d.roll(4), "ab\t\x00\xff")))
			by.add(r)
		}
	}
	if by.least() < 100 {
		t.Errorf("%v", by)
	}
}
