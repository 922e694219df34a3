package indent_test

import (
	"slices"
	"strings"
	"testing"

	"rootstock/api"
)

// single are pieces of one byte each.
func single(n, kind int) []api.Raw {
	return times(n, api.Raw{Kind: kind, Len: 1, Look: 1})
}

func TestLongTexts(t *testing.T) {
	const n = api.MaxText
	text := strings.Repeat("x", n)
	for _, x := range []struct {
		kind      int
		last      api.Mark
		tokens    int
		lastThree []api.Token
	}{
		{api.KName, within(0, 0), n + 2, []api.Token{token(api.KName, 0, 1), token(api.KNewline, 0, 0), token(api.KEnd, 0, 0)}},
		{api.KOpen, within(0, n), n + 2, []api.Token{token(api.KOpen, 0, 1), token(api.KNewline, 0, 0), token(api.KEnd, 0, 0)}},
		{api.KClose, within(0, 0), n + 2, []api.Token{token(api.KClose, 0, 1), token(api.KNewline, 0, 0), token(api.KEnd, 0, 0)}},
		{api.KSpace, fresh(n, 4096), 1, []api.Token{token(api.KEnd, n, 0)}},
		{api.KComment, fresh(n, 0), 1, []api.Token{token(api.KEnd, n, 0)}},
		{api.KJoin, fresh(n, 0), 1, []api.Token{token(api.KEnd, n, 0)}},
		{api.KNewline, fresh(n, 0), 1, []api.Token{token(api.KEnd, n, 0)}},
	} {
		l := single(n, x.kind)
		y := lexed(t, text, l)
		end := y.Tokens[max(0, len(y.Tokens)-3):]
		if len(y.Marks) != n+1 || !slices.Equal(y.Marks[n].Cols, x.last.Cols) || y.Marks[n].Open != x.last.Open || y.Marks[n].Lead != x.last.Lead || y.Marks[n].Fresh != x.last.Fresh || y.Marks[n].Col != x.last.Col || len(y.Tokens) != x.tokens || !slices.Equal(end, x.lastThree) || !slices.Equal(y.Raws, l) {
			t.Errorf("kind %d: %v, %d tokens, %v", x.kind, y.Marks[n], len(y.Tokens), end)
		}
		if !alike(y, allByTheWords(text, l)) {
			t.Errorf("kind %d: not by the words", x.kind)
		}
		refused(t, x.kind, text+"x", append(l, l[0]), api.ErrLong)
		// One piece of all bytes.
		l = []api.Raw{{Kind: x.kind, Len: n, Look: n + 1}}
		if y := lexed(t, text, l); !alike(y, allByTheWords(text, l)) {
			t.Errorf("kind %d: not by the words", x.kind)
		}
	}
}

func TestManyBlocks(t *testing.T) {
	// Each line goes deeper than the one ahead, till a bit beyond the columns that count; then all of them end.
	text := ""
	var l []api.Raw
	add := func(kind int, s string) {
		text += s
		l = append(l, api.Raw{Kind: kind, Len: len(s), Look: len(s)})
	}
	for depth := range 300 {
		if depth > 0 {
			add(api.KSpace, strings.Repeat("\t", depth))
		}
		add(api.KName, "a")
		add(api.KNewline, "\n")
	}
	for _, s := range []string{strings.Repeat("\t", 520), strings.Repeat("\t", 530), strings.Repeat(" ", 4095), strings.Repeat(" ", 4096), strings.Repeat(" ", 4097), "\t "} {
		add(api.KSpace, s)
		add(api.KName, "a")
		add(api.KNewline, "\n")
	}
	x := lexed(t, text, l)
	if !alike(x, allByTheWords(text, l)) {
		t.Fatal("not by the words")
	}
	told := map[int]int{}
	for _, k := range x.Tokens {
		told[k.Kind]++
	}
	// The deep lines: 4096, once more; 4095 ends that block, and is none itself; 4096 begins it anew, once more; then all but one end.
	if told[api.KIndent] != 299+2 || told[api.KDedent] != 299+2 || told[api.KBad] != 2 {
		t.Errorf("%v", told)
	}
}
