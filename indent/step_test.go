package indent_test

import (
	"reflect"
	"slices"
	"strings"
	"testing"

	"rootstock/api"
	"rootstock/indent"
)

func TestBlanks(t *testing.T) {
	steps(t, fresh(0, 0), "   ", api.KSpace, fresh(3, 3))
	steps(t, fresh(2, 5, 4), " \t ", api.KSpace, fresh(5, 9, 4))
	// Any bytes are blanks, if the piece says that they are; a line end's one, too.
	steps(t, fresh(0, 6), "a\n\xff", api.KSpace, fresh(3, 9))
	// Behind a token, and within brackets, blanks lead to no column.
	steps(t, within(1, 0, 2), " \t", api.KSpace, within(3, 0, 2))
	steps(t, within(1, 3, 2), " \t", api.KSpace, within(3, 3, 2))
	open := func(m *api.Mark) { m.Open = 1 }
	steps(t, changed(fresh(1, 5), open), " \t", api.KSpace, changed(fresh(3, 5), open))
	steps(t, changed(within(1, 0), func(m *api.Mark) { m.Col = 7 }), " ", api.KSpace, changed(within(2, 0), func(m *api.Mark) { m.Col = 7 }))
}

func TestRemarksAndLinesThatGoOn(t *testing.T) {
	for _, kind := range []int{api.KComment, api.KJoin} {
		steps(t, fresh(0, 0), "abc", kind, fresh(3, 0))
		steps(t, fresh(4, 4, 2), "\t ", kind, fresh(6, 4, 2))
		steps(t, within(0, 0), "\n", kind, within(1, 0))
		steps(t, within(7, 2, 4), "a", kind, within(8, 2, 4))
	}
}

func TestLineEnds(t *testing.T) {
	// Behind a token of its line, and no bracket open: a token. Else none.
	steps(t, within(3, 0, 2, 4), "\r\n", api.KNewline, fresh(0, 0, 2, 4), token(api.KNewline, 3, 2))
	steps(t, within(0, 0), "a", api.KNewline, fresh(0, 0), token(api.KNewline, 0, 1))
	steps(t, changed(within(1, 0), func(m *api.Mark) { m.Col = 9 }), "\n", api.KNewline, fresh(0, 0), token(api.KNewline, 1, 1))
	steps(t, fresh(5, 5, 2), "\r\n", api.KNewline, fresh(7, 0, 2))
	steps(t, fresh(0, 0), "\t\t", api.KNewline, fresh(2, 0))
	steps(t, within(2, 1, 2), "\n", api.KNewline, within(3, 1, 2))
	steps(t, within(0, api.MaxText), "\n", api.KNewline, within(1, api.MaxText))
	// The column goes only if no bracket is open.
	open := func(m *api.Mark) { m.Open, m.Col = 2, 9 }
	steps(t, changed(fresh(1, 0), open), "\n", api.KNewline, changed(fresh(2, 0), open))
	steps(t, changed(within(1, 0), open), "\n", api.KNewline, changed(within(2, 0), open))
}

func TestTokensOfEachKind(t *testing.T) {
	for _, kind := range kinds() {
		if notToken(kind) || kind == api.KNewline {
			continue
		}
		opened, left := 2, 0
		switch kind {
		case api.KOpen:
			opened, left = 3, 1
		case api.KClose:
			opened = 1
		}
		steps(t, within(1, 2, 3), "ab", kind, within(0, opened, 3), token(kind, 1, 2))
		steps(t, within(0, 0, 3), "a", kind, within(0, left, 3), token(kind, 0, 1))
		steps(t, fresh(4, 3, 3), "a", kind, within(0, left, 3), token(kind, 4, 1))
		steps(t, fresh(4, 4, 3), "a", kind, within(0, left, 3, 4), token(api.KIndent, 4, 0), token(kind, 0, 1))
		steps(t, fresh(9, 0, 3), "a", kind, within(0, left), token(api.KDedent, 9, 0), token(kind, 0, 1))
		steps(t, fresh(9, 2, 3), "a", kind, within(0, left), token(api.KDedent, 9, 0), token(api.KBad, 0, 0), token(kind, 0, 1))
	}
}

func TestBrackets(t *testing.T) {
	for _, x := range []struct{ kind, open, want int }{
		{api.KOpen, 0, 1}, {api.KOpen, api.MaxText - 1, api.MaxText}, {api.KOpen, api.MaxText, api.MaxText},
		{api.KClose, 0, 0}, {api.KClose, 1, 0}, {api.KClose, api.MaxText, api.MaxText - 1}, {api.KName, api.MaxText, api.MaxText}, {api.KName, 0, 0},
	} {
		steps(t, within(2, x.open), "a", x.kind, within(0, x.want), token(x.kind, 2, 1))
	}
	// A line's beginning within brackets opens no block, and ends none.
	for _, col := range []int{0, 1, 2, 5} {
		steps(t, changed(fresh(1, col, 2), func(m *api.Mark) { m.Open = 1 }), ")", api.KClose, within(0, 0, 2), token(api.KClose, 1, 1))
	}
	// Where the last bracket ends the line goes on: the next piece is in no line's beginning.
	steps(t, changed(within(1, 0, 2), func(m *api.Mark) { m.Col = 5 }), "a", api.KName, within(0, 0, 2), token(api.KName, 1, 1))
}

func TestBlocks(t *testing.T) {
	a := token(api.KName, 0, 1)
	bad := token(api.KBad, 0, 0)
	dedents := func(lead, n int) []api.Token {
		return append([]api.Token{token(api.KDedent, lead, 0)}, times(n-1, token(api.KDedent, 0, 0))...)
	}
	four := func(col int) api.Mark { return fresh(6, col, 2, 4, 6, 8) }
	for col, x := range map[int]struct {
		left   []int
		tokens []api.Token
	}{
		9: {[]int{2, 4, 6, 8, 9}, []api.Token{token(api.KIndent, 6, 0), a}}, 4096: {[]int{2, 4, 6, 8, 4096}, []api.Token{token(api.KIndent, 6, 0), a}}, 8: {[]int{2, 4, 6, 8}, []api.Token{token(api.KName, 6, 1)}},
		7: {[]int{2, 4, 6}, append(dedents(6, 1), bad, a)}, 6: {[]int{2, 4, 6}, append(dedents(6, 1), a)}, 5: {[]int{2, 4}, append(dedents(6, 2), bad, a)}, 4: {[]int{2, 4}, append(dedents(6, 2), a)},
		3: {[]int{2}, append(dedents(6, 3), bad, a)}, 2: {[]int{2}, append(dedents(6, 3), a)}, 1: {nil, append(dedents(6, 4), bad, a)}, 0: {nil, append(dedents(6, 4), a)},
	} {
		steps(t, four(col), "a", api.KName, within(0, 0, x.left...), x.tokens...)
	}
	// All blocks that may be open at once.
	var all []int
	for c := 1; c <= api.MaxColumn; c++ {
		all = append(all, c)
	}
	steps(t, fresh(0, 0, all...), "a", api.KName, within(0, 0), append(dedents(0, api.MaxColumn), a)...)
	steps(t, fresh(3, api.MaxColumn-1, all...), "a", api.KName, within(0, 0, all[:api.MaxColumn-1]...), token(api.KDedent, 3, 0), a)
	steps(t, fresh(3, api.MaxColumn, all...), "a", api.KName, within(0, 0, all...), token(api.KName, 3, 1))
	ends(t, fresh(3, 0, all...), append(times(api.MaxColumn, token(api.KDedent, 0, 0)), token(api.KEnd, 3, 0))...)
}

func TestColumns(t *testing.T) {
	for col := range api.MaxColumn + 1 {
		tab := min((col/8+1)*8, api.MaxColumn)
		steps(t, fresh(0, col), "\t", api.KSpace, fresh(1, tab))
		steps(t, fresh(0, col), "\t\t", api.KSpace, fresh(2, min(tab+8, api.MaxColumn)))
		steps(t, fresh(0, col), " \t", api.KSpace, fresh(2, min(((col+1)/8+1)*8, api.MaxColumn)))
		steps(t, fresh(0, col), "\t ", api.KSpace, fresh(2, min(tab+1, api.MaxColumn)))
	}
	for b := range 256 {
		want := 4
		if b == 9 {
			want = 8
		}
		steps(t, fresh(0, 3), string([]byte{byte(b)}), api.KSpace, fresh(1, want))
		steps(t, fresh(0, api.MaxColumn), string([]byte{byte(b)}), api.KSpace, fresh(1, api.MaxColumn))
	}
	for _, x := range []struct {
		col  int
		text string
		want int
	}{
		{0, strings.Repeat(" ", 4095), 4095}, {0, strings.Repeat(" ", 4096), 4096}, {0, strings.Repeat(" ", 4097), 4096}, {1, strings.Repeat(" ", 4095), 4096}, {0, strings.Repeat(" ", api.MaxText), 4096},
		{0, strings.Repeat("\t", 511), 4088}, {0, strings.Repeat("\t", 512), 4096}, {0, strings.Repeat("\t", 513), 4096}, {0, strings.Repeat("\t", 511) + strings.Repeat(" ", 7), 4095}, {0, strings.Repeat("\t", api.MaxText), 4096}, {4095, strings.Repeat("\t \t", 9), 4096},
	} {
		steps(t, fresh(0, x.col), x.text, api.KSpace, fresh(len(x.text), x.want))
	}
}

func TestAllMarksByTheWords(t *testing.T) {
	all := marks()
	for _, kind := range kinds() {
		for _, text := range []string{" ", "\t", "\n", "(", "\t ", "\r\n", " \t ", "ab\xff"} {
			r := api.Raw{Kind: kind, Len: len(text), Look: 1}
			for _, m := range all {
				if m.Lead+len(text) > api.MaxText {
					stays(t, m, text, r)
					continue
				}
				next, l := indent.Step(m, text, r)
				if want, tokens := stepByTheWords(m, text, r); !reflect.DeepEqual(next, want) || !slices.Equal(l, tokens) {
					t.Fatalf("%v by kind %d, %q: %v, %v, not %v, %v", m, kind, text, next, l, want, tokens)
				}
			}
		}
	}
}

func TestLeadThatReachesItsBound(t *testing.T) {
	for _, n := range []int{1, 2, 1000, api.MaxText} {
		text := strings.Repeat("x", n)
		for _, kind := range kinds() {
			for _, m := range []api.Mark{fresh(api.MaxText-n, 3, 3), within(api.MaxText-n, 0), within(api.MaxText-n, 1)} {
				r := api.Raw{Kind: kind, Len: n}
				next, l := indent.Step(m, text, r)
				if next.Cols == nil || notToken(kind) && (next.Lead != api.MaxText || len(l) > 0) || kind == api.KName && (next.Lead != 0 || !slices.Equal(l, []api.Token{token(kind, m.Lead, n)})) {
					t.Errorf("%v by kind %d, %d bytes: %v, %v", m, kind, n, next, l)
				}
				// One more: of the mark, and of the piece.
				stays(t, changed(m, func(m *api.Mark) { m.Lead++ }), text, r)
				stays(t, m, text+"x", api.Raw{Kind: kind, Len: n + 1})
			}
		}
	}
}

func TestEnd(t *testing.T) {
	line, dedent := token(api.KNewline, 0, 0), token(api.KDedent, 0, 0)
	ends(t, fresh(0, 0), token(api.KEnd, 0, 0))
	ends(t, fresh(7, 3), token(api.KEnd, 7, 0))
	ends(t, within(0, 0), line, token(api.KEnd, 0, 0))
	ends(t, within(2, 5), line, token(api.KEnd, 2, 0))
	ends(t, fresh(1, 0, 2), dedent, token(api.KEnd, 1, 0))
	ends(t, within(api.MaxText, api.MaxText, 2, 4096), line, dedent, dedent, token(api.KEnd, api.MaxText, 0))
	ends(t, changed(fresh(1, 9, 2, 4, 8), func(m *api.Mark) { m.Open = 3 }), dedent, dedent, dedent, token(api.KEnd, 1, 0))
	for _, m := range marks() {
		ends(t, m, endByTheWords(m)...)
	}
}
