package relex_test

import (
	"strings"
	"testing"

	"rootstock/api"
)

func TestLongTexts(t *testing.T) {
	const n = api.MaxText
	for _, of := range []string{"a", " ", "#", "+", "(\n", "if a:\n\tb = 'c' # d\n"} {
		text := strings.Repeat(of, n)[:n]
		s := scan(t, language, text)
		// At the beginning, in the middle, at the end; what brings it back is behind another edit.
		for _, e := range []api.Edit{edit(0, 1, ""), edit(n/2, n/2+5, "'"), edit(n-1, n, "\n"), edit(0, n, "x")} {
			m, _ := holds(t, language, s, e)
			holds(t, language, m, edit(e.Start, e.Start+len(e.Text), text[e.Start:e.End]))
		}
		is(t, language, s, text)
		turnedDown(t, s, edit(n/2, n/2, "a"), api.ErrLong)
		turnedDown(t, s, edit(n, n, of), api.ErrLong)
	}
	// As many as that come at once.
	text := strings.Repeat("if a:\n  b\n", n)[:n]
	m, _ := holds(t, language, scan(t, language, ""), edit(0, 0, text))
	is(t, language, m, text)
}

func TestLittleIsScannedOfALongText(t *testing.T) {
	const line = "x = f(a, 'b') # c\n"
	text := strings.Repeat(line, api.MaxText/len(line)-1)
	s := scan(t, language, text)
	pieces := len(s.Lexed().Raws)
	for i := 0; i < len(text); i += len(line) * 1200 {
		for _, x := range []struct {
			at, end int
			comes   string
			scanned int
		}{
			{0, 1, "y", 1}, {0, 1, "yz", 1}, {0, 0, line, 14}, {0, len(line), "", 0}, {2, 2, "+ ", 3}, {6, 7, "b", 1}, {7, 7, " ", 3}, {10, 11, "xy", 1}, {16, 16, "y", 2}, {14, 17, "", 2}, {3, 3, "\\\n", 3},
		} {
			m, r := change(t, s, edit(i+x.at, i+x.end, x.comes))
			if r.Scanned != x.scanned || r.Ahead+r.Behind < pieces/2 {
				t.Errorf("%d, %v: %d, %d, %d", i, x, r.Ahead, r.Behind, r.Scanned)
			}
			is(t, language, m, applied(t, text, edit(i+x.at, i+x.end, x.comes)))
		}
	}
}

func TestManyBlocks(t *testing.T) {
	// Each line goes deeper than the one ahead, and then many stay there: each mark has many columns.
	text := ""
	for depth := range 200 {
		text += strings.Repeat(" ", depth) + "a\n"
	}
	text += strings.Repeat(strings.Repeat(" ", 199)+"a+a+a\n", 150)
	s := scan(t, language, text)
	is(t, language, s, text)
	for _, e := range []api.Edit{edit(0, 1, "b"), edit(2, 3, ""), edit(len(text)-1, len(text), "\nc"), edit(len(text)/2, len(text)/2+1, "a"), edit(19900, 20100, ""), edit(0, 0, "(")} {
		m, _ := holds(t, language, s, e)
		is(t, language, m, applied(t, text, e))
	}
	is(t, language, s, text)
}

func TestGreatAutomata(t *testing.T) {
	// A row of all states that may be, of which the last one alone has a rule: all that is left is looked at, of each piece.
	row := flat(2048, 2)
	for i := range 2047 {
		row.Next[i][0] = i + 1
	}
	row.Rule[2047] = 47
	by := scanner{kinds(append(times(47, 1), api.KName)...), row}
	text := strings.Repeat("x", 2*2047+30)
	s := scan(t, by, text)
	is(t, by, s, text)
	for _, e := range []api.Edit{edit(0, 0, "x"), edit(0, 1, ""), edit(2047, 2047, ""), edit(2047, 2048, "y"), edit(2046, 2047, "y"), edit(len(text), len(text), text), edit(4094, len(text), ""), edit(4095, 4096, "")} {
		n, _ := holds(t, by, s, e)
		is(t, by, n, applied(t, text, e))
	}
}
