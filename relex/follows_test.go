package relex_test

import (
	"testing"

	"rootstock/api"
	"rootstock/edits"
)

// step holds that an edit leads to what a new scan comes to, that what is told ahead of what is not kept stays, and that the edit that takes it back leads to what was.
func step(t *testing.T, by scanner, text string, e api.Edit) {
	t.Helper()
	s := scan(t, by, text)
	was := s.Lexed()
	n, r := holds(t, by, s, e)
	fresh := scan(t, by, n.Text())
	if x := fresh.Lexed(); !alike(n.Lexed(), x) || !alike(r.Lexed, x) {
		t.Errorf("%q, %v: %v, not %v", text, e, n.Lexed(), x)
	}
	if ahead := was.Counts[r.kept]; r.Ahead < ahead {
		t.Errorf("%q, %v: %d stay, but %d are told ahead of what is not kept", text, e, r.Ahead, ahead)
	}
	undo, f := edits.Undo(text, e)
	if f != api.OK {
		t.Fatalf("%q, %v: %v", text, e, f)
	}
	back, u := holds(t, by, n, undo)
	if back.Text() != text || !alike(back.Lexed(), was) || u.Ahead != r.Ahead || u.Behind != r.Behind {
		t.Errorf("%q, %v: back to %v, not %v; %d, %d, not %d, %d", text, e, back.Lexed(), was, u.Ahead, u.Behind, r.Ahead, r.Behind)
	}
}

func TestEditsTakenBack(t *testing.T) {
	d := dice(4)
	for range 1500 {
		text := d.line(d.roll(20))
		step(t, language, text, d.of(text, d.line(d.roll(3))))
		m := d.mixed()
		text = d.text(d.roll(20), "ab\t\x00\xff")
		step(t, m, text, d.of(text, d.text(d.roll(4), "ab\t\x00\xff")))
	}
	for _, text := range texts(3, "a'\r\n") {
		for start := range len(text) + 1 {
			for end := start; end <= len(text); end++ {
				for _, comes := range []string{"", "a", "'", "\n", "(\r"} {
					step(t, language, text, edit(start, end, comes))
				}
			}
		}
	}
}

func TestEditsOneBehindTheOther(t *testing.T) {
	d := dice(5)
	for range 60 {
		text := d.line(d.roll(20))
		s := scan(t, language, text)
		for range 40 {
			e := d.of(text, d.line(d.roll(3)))
			n, _ := holds(t, language, s, e)
			is(t, language, s, text)
			text, s = applied(t, text, e), n
			is(t, language, s, text)
		}
	}
	for range 200 {
		m := d.mixed()
		text := ""
		s := scan(t, m, text)
		for range 20 {
			e := d.of(text, d.text(d.roll(5), "ab\t\x00\xff"))
			s, _ = holds(t, m, s, e)
			text = applied(t, text, e)
			is(t, m, s, text)
		}
	}
}

func TestARowOfEditsTakenBack(t *testing.T) {
	d := dice(6)
	for range 40 {
		text := d.line(d.roll(20))
		s := scan(t, language, text)
		was := []string{text}
		var undo []api.Edit
		for range 20 {
			e := d.of(text, d.line(d.roll(3)))
			u, f := edits.Undo(text, e)
			if f != api.OK {
				t.Fatal(f)
			}
			s, _ = holds(t, language, s, e)
			text = applied(t, text, e)
			was, undo = append(was, text), append(undo, u)
		}
		for i := len(undo) - 1; i >= 0; i-- {
			s, _ = holds(t, language, s, undo[i])
			is(t, language, s, was[i])
		}
	}
}

func TestTypedByteByByte(t *testing.T) {
	const text = "def f(a, b):\r\n  if a < b: # x\n\treturn 'a' + \\\n b\n  (\n c\n)\n?\nx = 12\n"
	// From the beginning on, from the end on, and taken away from both.
	s, back := scan(t, language, ""), scan(t, language, "")
	for i := range len(text) {
		s, _ = holds(t, language, s, edit(i, i, text[i:i+1]))
		back, _ = holds(t, language, back, edit(0, 0, text[len(text)-1-i:len(text)-i]))
	}
	is(t, language, s, text)
	is(t, language, back, text)
	for i := range len(text) {
		s, _ = holds(t, language, s, edit(len(text)-1-i, len(text)-i, ""))
		back, _ = holds(t, language, back, edit(0, 1, ""))
	}
	is(t, language, s, "")
	is(t, language, back, "")
}
