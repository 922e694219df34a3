package relex_test

import (
	"reflect"
	"slices"
	"testing"

	"rootstock/api"
	"rootstock/regs"
	"rootstock/relex"
)

// spoil writes into all that was answered, and into the room behind it.
func spoil(x api.Lexed) {
	for i := range x.Raws[:cap(x.Raws)] {
		x.Raws[:cap(x.Raws)][i] = api.Raw{Kind: -9, Len: -9, Look: -9}
	}
	for i := range x.Marks {
		for j := range x.Marks[i].Cols[:cap(x.Marks[i].Cols)] {
			x.Marks[i].Cols[:cap(x.Marks[i].Cols)][j] = -9
		}
	}
	for i := range x.Marks[:cap(x.Marks)] {
		x.Marks[:cap(x.Marks)][i] = api.Mark{Open: -9}
	}
	for i := range x.Counts[:cap(x.Counts)] {
		x.Counts[:cap(x.Counts)][i] = -9
	}
	for i := range x.Tokens[:cap(x.Tokens)] {
		x.Tokens[:cap(x.Tokens)][i] = api.Token{Kind: -9}
	}
}

func TestWhatWasHandedInIsNotKept(t *testing.T) {
	d := dice(7)
	for range 300 {
		m := d.mixed()
		for i := range m.rules {
			r, _, f := regs.Parse(d.text(d.roll(4), "ab."))
			if f != api.OK {
				t.Fatal(f)
			}
			m.rules[i].Reg = r
		}
		given := scanner{slices.Clone(m.rules), copied(m.d)}
		for i := range given.rules {
			given.rules[i].Reg.Parts = slices.Clone(m.rules[i].Reg.Parts)
		}
		text := d.text(d.roll(20), "ab\t\x00\xff")
		s := scan(t, given, text)
		if !reflect.DeepEqual(given, m) {
			t.Fatalf("%v became %v", m, given)
		}
		e := d.of(text, d.text(d.roll(4), "ab\t\x00\xff"))
		n, _ := holds(t, m, s, e)
		if !reflect.DeepEqual(given, m) {
			t.Fatalf("%v became %v", m, given)
		}
		// Whoever has them may do with them what they will.
		for i := range given.rules {
			given.rules[i] = api.Rule{Kind: 77}
		}
		for i := range given.d.Next {
			given.d.Rule[i] = 0
			for c := range given.d.Next[i] {
				given.d.Next[i][c] = 0
			}
			given.d.Next[i] = nil
		}
		is(t, m, s, text)
		holds(t, m, s, e)
		holds(t, m, n, d.of(n.Text(), "ba"))
		is(t, m, n, applied(t, text, e))
	}
}

func TestAnswersAreMemoryOfTheirOwn(t *testing.T) {
	d := dice(8)
	for range 300 {
		text := d.line(d.roll(30))
		s := scan(t, language, text)
		spoil(s.Lexed())
		is(t, language, s, text)
		for range 5 {
			e := d.of(text, d.line(d.roll(3)))
			n, r := change(t, s, e)
			behind := applied(t, text, e)
			spoil(r.Lexed)
			is(t, language, n, behind)
			is(t, language, s, text)
			spoil(n.Lexed())
			spoil(s.Lexed())
			is(t, language, n, behind)
			is(t, language, s, text)
			// What is told of the same edit again is the same.
			holds(t, language, s, e)
			holds(t, language, n, d.of(behind, "("))
		}
	}
}

func TestNoTwoListsOfAnAnswerShareMemory(t *testing.T) {
	d := dice(9)
	for range 150 {
		text := d.line(d.roll(30))
		s := scan(t, language, text)
		e := d.of(text, d.line(d.roll(3)))
		n, r := change(t, s, e)
		ownColumns(t, r.Lexed, n.Text())
		ownColumns(t, n.Lexed(), n.Text())
		ownColumns(t, s.Lexed(), text)
	}
}

// ownColumns holds that each mark's columns, and what room there is behind them, are its own.
func ownColumns(t *testing.T, x api.Lexed, text string) {
	t.Helper()
	want := lexed(t, language, text)
	for i, m := range x.Marks {
		room := m.Cols[:cap(m.Cols)]
		for j := range room {
			room[j] = -9
		}
		if !slices.EqualFunc(x.Marks[i+1:], want.Marks[i+1:], sameMark) {
			t.Fatalf("%q: a mark has memory of mark %d", text, i)
		}
	}
}

// version is a scan that came of edits, and the text that it must have.
type version struct {
	s    *relex.Scan
	text string
}

func TestScansStayWhatTheyAre(t *testing.T) {
	d := dice(10)
	for range 30 {
		text := d.line(d.roll(20))
		all := []version{{scan(t, language, text), text}}
		// Of any of those that are, again and again: two of the same one, too, and where little is left, or nothing comes.
		for range 60 {
			v := all[d.roll(len(all))]
			e := d.of(v.text, d.line(d.roll(3)))
			switch d.roll(4) {
			case 0:
				e.End, e.Text = len(v.text), ""
			case 1:
				e = edit(len(v.text), len(v.text), e.Text)
			}
			n, _ := holds(t, language, v.s, e)
			all = append(all, version{n, applied(t, v.text, e)})
		}
		for _, v := range all {
			is(t, language, v.s, v.text)
		}
	}
}

func TestTwoEditsOfOneScan(t *testing.T) {
	// Both scans begin with what the one has; what comes behind it in the one is not in the other.
	s := scan(t, language, "+\n+\n+\n")
	cut, _ := holds(t, language, s, edit(4, 6, ""))
	for _, comes := range []string{"-", "-\n-", "(\n(", "\n", "  a"} {
		n, _ := holds(t, language, cut, edit(4, 4, comes))
		m, _ := holds(t, language, cut, edit(4, 4, "*\n*"))
		k, _ := holds(t, language, s, edit(4, 4, comes))
		is(t, language, n, "+\n+\n"+comes)
		is(t, language, m, "+\n+\n*\n*")
		is(t, language, k, "+\n+\n"+comes+"+\n")
		is(t, language, cut, "+\n+\n")
		is(t, language, s, "+\n+\n+\n")
	}
}

func TestAnsweredTheSameEachTime(t *testing.T) {
	d := dice(11)
	for range 200 {
		text := d.line(d.roll(30))
		e := d.of(text, d.line(d.roll(3)))
		s, again := scan(t, language, text), scan(t, language, text)
		n, r := change(t, s, e)
		for range 3 {
			m, more := change(t, again, e)
			if !reflect.DeepEqual(r, more) || !reflect.DeepEqual(m.Lexed(), n.Lexed()) || m.Text() != n.Text() || !reflect.DeepEqual(s.Lexed(), again.Lexed()) {
				t.Fatalf("%q, %v: %v, and then %v", text, e, r, more)
			}
		}
	}
}
