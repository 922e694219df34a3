package indent_test

import (
	"math"
	"reflect"
	"slices"
	"testing"

	"rootstock/api"
	"rootstock/indent"
	"rootstock/raws"
)

// The language's own scanner.
var (
	language = raws.Rules()
	own      = raws.Dfa()
)

// times is as many of one thing.
func times[T any](n int, x T) []T { return slices.Repeat([]T{x}, n) }

// token is one of a kind, with a lead and bytes of its own.
func token(kind, lead, width int) api.Token {
	return api.Token{Kind: kind, Lead: lead, Width: width}
}

// fresh is a mark at a column of a line's beginning, behind as many bytes that are no token, with blocks open at some columns behind 0.
func fresh(lead, col int, cols ...int) api.Mark {
	return api.Mark{Cols: append([]int{0}, cols...), Fresh: true, Lead: lead, Col: col}
}

// within is a mark behind a token of its line, with as many brackets open.
func within(lead, open int, cols ...int) api.Mark {
	return api.Mark{Cols: append([]int{0}, cols...), Open: open, Lead: lead}
}

// changed is a mark with something else in it.
func changed(m api.Mark, change func(m *api.Mark)) api.Mark {
	m.Cols = slices.Clone(m.Cols)
	change(&m)
	return m
}

// steps holds that a step leads to a mark, and tells just some tokens.
func steps(t *testing.T, m api.Mark, text string, kind int, want api.Mark, tokens ...api.Token) {
	t.Helper()
	next, l := indent.Step(m, text, api.Raw{Kind: kind, Len: len(text), Look: len(text)})
	if !reflect.DeepEqual(next, want) || !slices.Equal(l, tokens) {
		t.Errorf("%v by kind %d, %.20q: %v, %v, not %v, %v", m, kind, text, next, l, want, tokens)
	}
}

// stays holds that no step is made.
func stays(t *testing.T, m api.Mark, text string, r api.Raw) {
	t.Helper()
	if next, l := indent.Step(m, text, r); !reflect.DeepEqual(next, api.Mark{}) || len(l) > 0 {
		t.Errorf("%.200v, %.20q, %v: %v, %v", m, text, r, next, l)
	}
}

// ends holds that just some tokens are told at the end.
func ends(t *testing.T, m api.Mark, tokens ...api.Token) {
	t.Helper()
	if l := indent.End(m); !slices.Equal(l, tokens) {
		t.Errorf("%.200v: %.200v, not %.200v", m, l, tokens)
	}
}

// lexed is what All tells, which must be no error.
func lexed(t *testing.T, text string, l []api.Raw) api.Lexed {
	t.Helper()
	x, e := indent.All(text, l)
	if e != api.OK {
		t.Fatalf("%.40q, %.200v: %v", text, l, e)
	}
	return x
}

// refused holds that a text and pieces are told with an error, and nothing else.
func refused(t *testing.T, what any, text string, l []api.Raw, want api.Errno) {
	t.Helper()
	if x, e := indent.All(text, l); e != want || !reflect.DeepEqual(x, api.Lexed{}) {
		t.Errorf("%v, %.20q, %.200v: %.200v, %v, not %v", what, text, l, x, e, want)
	}
}

// scanned are a text's pieces by the language's rules.
func scanned(t *testing.T, text string) []api.Raw {
	t.Helper()
	l, e := raws.Of(language, own, text)
	if e != api.OK {
		t.Fatalf("%.40q: %v", text, e)
	}
	return l
}

// reads holds that a text has just some tokens by the language's rules.
func reads(t *testing.T, text string, tokens ...api.Token) {
	t.Helper()
	if x := lexed(t, text, scanned(t, text)); !slices.Equal(x.Tokens, tokens) {
		t.Errorf("%q: %v, not %v", text, x.Tokens, tokens)
	}
}

// led is where a byte leads from a column on, one column after the other.
func led(col int, b byte) int {
	for {
		if col == api.MaxColumn {
			return col
		}
		col++
		if b != 9 || col%api.MaxTab == 0 {
			return col
		}
	}
}

// stepByTheWords is a step as the chapter's table has it, row by row.
func stepByTheWords(m api.Mark, text string, r api.Raw) (api.Mark, []api.Token) {
	next := changed(m, func(*api.Mark) {})
	switch k := r.Kind; {
	case k == api.KSpace && m.Fresh && m.Open == 0:
		for i := range len(text) {
			next.Col = led(next.Col, text[i])
		}
		next.Lead = m.Lead + r.Len
		return next, nil
	case k == api.KSpace, k == api.KComment, k == api.KJoin, k == api.KNewline && m.Open > 0:
		next.Lead = m.Lead + r.Len
		return next, nil
	case k == api.KNewline && m.Fresh:
		next.Lead, next.Col = m.Lead+r.Len, 0
		return next, nil
	case k == api.KNewline:
		next.Lead, next.Col, next.Fresh = 0, 0, true
		return next, []api.Token{{Kind: api.KNewline, Lead: m.Lead, Width: r.Len}}
	}
	l := append(blockByTheWords(&next), api.Token{Kind: r.Kind, Width: r.Len})
	l[0].Lead = m.Lead
	next.Lead, next.Col, next.Fresh = 0, 0, false
	if r.Kind == api.KOpen && m.Open < api.MaxText {
		next.Open++
	}
	if r.Kind == api.KClose && m.Open > 0 {
		next.Open--
	}
	return next, l
}

// blockByTheWords are the tokens of a block; its columns are changed.
func blockByTheWords(m *api.Mark) []api.Token {
	above := func(c int) bool { return c > m.Col }
	if !m.Fresh || m.Open > 0 {
		return nil
	}
	if slices.Max(m.Cols) < m.Col {
		m.Cols = append(m.Cols, m.Col)
		return []api.Token{{Kind: api.KIndent}}
	}
	had := len(m.Cols)
	m.Cols = slices.DeleteFunc(m.Cols, above)
	l := times(had-len(m.Cols), api.Token{Kind: api.KDedent})
	if !slices.Contains(m.Cols, m.Col) {
		l = append(l, api.Token{Kind: api.KBad})
	}
	return l
}

// endByTheWords are the tokens of the end.
func endByTheWords(m api.Mark) []api.Token {
	l := times(len(m.Cols), api.Token{Kind: api.KDedent})
	if l[0].Kind = api.KNewline; m.Fresh {
		l = l[1:]
	}
	return append(l, api.Token{Kind: api.KEnd, Lead: m.Lead})
}

// allByTheWords goes from step to step.
func allByTheWords(text string, l []api.Raw) api.Lexed {
	m := api.Mark{Cols: []int{0}, Fresh: true}
	x := api.Lexed{Raws: l, Marks: []api.Mark{m}, Counts: []int{0}}
	at := 0
	for _, r := range l {
		var tokens []api.Token
		m, tokens = stepByTheWords(m, text[at:at+r.Len], r)
		at += r.Len
		x.Tokens = append(x.Tokens, tokens...)
		x.Marks, x.Counts = append(x.Marks, m), append(x.Counts, len(x.Tokens))
	}
	x.Tokens = append(x.Tokens, endByTheWords(m)...)
	return x
}

// alike tells whether two texts have come to the same.
func alike(x, y api.Lexed) bool {
	return slices.Equal(x.Raws, y.Raws) && reflect.DeepEqual(x.Marks, y.Marks) && slices.Equal(x.Counts, y.Counts) && slices.Equal(x.Tokens, y.Tokens)
}

// marks are many that may be: of all sorts, and at the bounds.
func marks() []api.Mark {
	var l []api.Mark
	for _, cols := range [][]int{{0}, {0, 3}, {0, 1, 2, 3, 8}, {0, 5, 4096}, {0, 4095}} {
		for _, open := range []int{0, 1, 2, api.MaxText - 1, api.MaxText} {
			for _, col := range []int{0, 1, 3, 5, 7, 8, 4095, 4096} {
				for _, lead := range []int{0, 1, api.MaxText - 3, api.MaxText - 1, api.MaxText} {
					l = append(l, api.Mark{Cols: cols, Open: open, Col: col, Lead: lead}, api.Mark{Cols: cols, Open: open, Col: col, Lead: lead, Fresh: true})
				}
			}
		}
	}
	return l
}

// kinds are those that api names, and some that it does not.
func kinds() []int {
	l := []int{math.MinInt, -1, 99, math.MaxInt}
	for k := range api.KJoin + 2 {
		l = append(l, k)
	}
	return l
}

// notToken tells whether a kind is one of those that are no token wherever they stand.
func notToken(kind int) bool {
	return kind == api.KSpace || kind == api.KComment || kind == api.KJoin
}

// dice are numbers, the same ones in each run.
type dice uint32

func (d *dice) roll(n int) int {
	*d = *d*1664525 + 1013904223
	return int(*d>>8) % n
}

// text is a mixed one of some bytes.
func (d *dice) text(n int, bytes string) string {
	b := make([]byte, n)
	for i := range b {
		b[i] = bytes[d.roll(len(bytes))]
	}
	return string(b)
}

// pieces are a mixed text with pieces of mixed kinds; those by which lines are laid come more often than others.
func (d *dice) pieces(n int) (string, []api.Raw) {
	often := []int{api.KSpace, api.KSpace, api.KNewline, api.KNewline, api.KName, api.KOpen, api.KClose, api.KComment, api.KJoin}
	all := kinds()
	text := ""
	var l []api.Raw
	for range n {
		k := often[d.roll(len(often))]
		if d.roll(9) == 0 {
			k = all[d.roll(len(all))]
		}
		piece := d.text(1+d.roll(3), "\t  a\n\xff")
		text += piece
		l = append(l, api.Raw{Kind: k, Len: len(piece), Look: d.roll(9) - 4})
	}
	return text, l
}

// line is a mixed text of the language.
func (d *dice) line(n int) string {
	parts := []string{"\n", "\n", "\r\n", "\n  ", "\n    ", "\n\t", "\n   ", " ", "\t", "a", "if", "1", "'x y'", "(", ")", ":", "# x", "\\\n", "\\", "?", "'", "\xff"}
	s := ""
	for range n {
		s += parts[d.roll(len(parts))]
	}
	return s
}
