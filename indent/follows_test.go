package indent_test

import (
	"slices"
	"testing"

	"rootstock/api"
)

// both are mixed texts of the language, and of mixed pieces, of which none is an indent, a dedent, or an end itself.
func both(t *testing.T, d *dice, each func(text string, l []api.Raw)) {
	t.Helper()
	for range 2000 {
		text := d.line(d.roll(40))
		each(text, scanned(t, text))
		text, l := d.pieces(d.roll(40))
		for i := range l {
			if k := l[i].Kind; k == api.KIndent || k == api.KDedent || k == api.KEnd {
				l[i].Kind = api.KName
			}
		}
		each(text, l)
	}
}

func TestTokensHaveAllBytes(t *testing.T) {
	d := dice(3)
	both(t, &d, func(text string, l []api.Raw) {
		n := 0
		for _, k := range lexed(t, text, l).Tokens {
			n += k.Lead + k.Width
		}
		if n != len(text) {
			t.Errorf("%q, %v: %d bytes", text, l, n)
		}
	})
	// Whatever the pieces' kinds are.
	for range 1000 {
		text, l := d.pieces(d.roll(40))
		n := 0
		for _, k := range lexed(t, text, l).Tokens {
			n += k.Lead + k.Width
		}
		if n != len(text) {
			t.Errorf("%q, %v: %d bytes", text, l, n)
		}
	}
}

func TestBlocksEnd(t *testing.T) {
	d := dice(4)
	most := 0
	both(t, &d, func(text string, l []api.Raw) {
		tokens := lexed(t, text, l).Tokens
		open := 0
		for _, k := range tokens {
			switch k.Kind {
			case api.KIndent:
				open++
			case api.KDedent:
				open--
			}
			if most = max(most, open); open < 0 {
				t.Errorf("%q, %v: %v", text, l, tokens)
			}
		}
		end := slices.IndexFunc(tokens, func(k api.Token) bool { return k.Kind == api.KEnd })
		if open != 0 || end != len(tokens)-1 {
			t.Errorf("%q, %v: %v", text, l, tokens)
		}
	})
	if most < 4 {
		t.Errorf("%d", most)
	}
}

// mayBe tells whether a mark may be.
func mayBe(m api.Mark) bool {
	rising := slices.IsSorted(m.Cols) && len(slices.Compact(slices.Clone(m.Cols))) == len(m.Cols)
	return len(m.Cols) > 0 && m.Cols[0] == 0 && rising && slices.Max(m.Cols) <= 4096 && 0 <= min(m.Open, m.Lead, m.Col) && max(m.Open, m.Lead) <= 65536 && m.Col <= 4096
}

func TestEachMarkMayBe(t *testing.T) {
	d := dice(5)
	both(t, &d, func(text string, l []api.Raw) {
		x := lexed(t, text, l)
		for _, m := range x.Marks {
			if !mayBe(m) {
				t.Errorf("%q, %v: %v", text, l, m)
			}
		}
		if len(x.Marks) != len(l)+1 || len(x.Counts) != len(l)+1 {
			t.Errorf("%q, %v: %d marks, %d counts", text, l, len(x.Marks), len(x.Counts))
		}
	})
}

// blank is a line of blanks and remarks alone, as pieces.
func blank(d *dice) (string, []api.Raw) {
	text := ""
	var l []api.Raw
	for range d.roll(4) {
		k := []int{api.KSpace, api.KSpace, api.KComment}[d.roll(3)]
		piece := d.text(1+d.roll(3), "\t #x")
		text += piece
		l = append(l, api.Raw{Kind: k, Len: len(piece)})
	}
	return text + "\n", append(l, api.Raw{Kind: api.KNewline, Len: 1})
}

// bare are tokens without their leads.
func bare(l []api.Token) []api.Token {
	l = slices.Clone(l)
	for i := range l {
		l[i].Lead = 0
	}
	return l
}

func TestBlankLinesAddNoToken(t *testing.T) {
	d := dice(6)
	tried := 0
	both(t, &d, func(text string, l []api.Raw) {
		x := lexed(t, text, l)
		at := 0
		for i, m := range x.Marks {
			if i == 0 || l[i-1].Kind == api.KNewline && m.Open == 0 {
				line, more := blank(&d)
				y := lexed(t, text[:at]+line+text[at:], slices.Concat(l[:i], more, l[i:]))
				if !slices.Equal(bare(y.Tokens), bare(x.Tokens)) {
					t.Fatalf("%q, %v: %v, but with %q at %d: %v", text, l, x.Tokens, line, at, y.Tokens)
				}
				// What is told next has its bytes ahead of its own, be it the end; no other token has any more.
				j := x.Counts[i]
				if j == x.Counts[len(l)] {
					j = len(x.Tokens) - 1
				}
				if y.Tokens[j].Lead != x.Tokens[j].Lead+len(line) || !slices.Equal(y.Tokens[:j], x.Tokens[:j]) || !slices.Equal(y.Tokens[j+1:], x.Tokens[j+1:]) {
					t.Fatalf("%q, %v: %v, but with %q at %d: %v", text, l, x.Tokens, line, at, y.Tokens)
				}
				tried++
			}
			if i < len(l) {
				at += l[i].Len
			}
		}
	})
	if tried < 5000 {
		t.Errorf("%d", tried)
	}
}

func TestBlankLinesAtTheEnd(t *testing.T) {
	d := dice(7)
	both(t, &d, func(text string, l []api.Raw) {
		x := lexed(t, text, l)
		if m := x.Marks[len(l)]; len(l) > 0 && (l[len(l)-1].Kind != api.KNewline || m.Open > 0) {
			return
		}
		// The last line need not end.
		line, more := blank(&d)
		y := lexed(t, text+line[:len(line)-1], slices.Concat(l, more[:len(more)-1]))
		if !slices.Equal(bare(y.Tokens), bare(x.Tokens)) || y.Tokens[len(y.Tokens)-1].Lead != x.Tokens[len(x.Tokens)-1].Lead+len(line)-1 {
			t.Errorf("%q, %v: %v, but with %q: %v", text, l, x.Tokens, line, y.Tokens)
		}
	})
}
