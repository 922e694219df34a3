package edits_test

import (
	"fmt"
	"math"
	"strings"

	"rootstock/api"
)

// full has as many bytes as a text may have, over as many as that and one more.
var (
	full = strings.Repeat("a", api.MaxText)
	over = strings.Repeat("a", api.MaxText+1)
)

func edit(start, end int, text string) api.Edit {
	return api.Edit{Start: start, End: end, Text: text}
}

// show is an edit as a short text, whatever bytes it has.
func show(e api.Edit) string {
	return fmt.Sprintf("%d to %d, %d bytes %.20q", e.Start, e.End, len(e.Text), e.Text)
}

// small are texts of 0 to 5 bytes, some of which are no runes.
func small() []string {
	return []string{"", "a", "\x00\n", "\xff\xc3\x28", "\u00e9ab", "abcde"}
}

// near are edits around a text of n bytes: those that fit it, and those that just don't.
func near(n int) []api.Edit {
	var l []api.Edit
	for start := -1; start <= n+1; start++ {
		for end := -1; end <= n+1; end++ {
			for _, text := range []string{"", "X", "\xfeY", "UVWXYZ"} {
				l = append(l, edit(start, end, text))
			}
		}
	}
	return l
}

// wild are edits that fit no text.
func wild() []api.Edit {
	return []api.Edit{
		edit(-1, 0, ""), edit(-1, -1, "a"), edit(0, -1, ""), edit(2, 1, ""), edit(1, 0, "abc"),
		edit(0, api.MaxText+1, ""), edit(api.MaxText+1, api.MaxText+1, ""), edit(api.MaxText, api.MaxText+1, "a"),
		edit(math.MinInt, 0, ""), edit(0, math.MinInt, ""), edit(math.MinInt, math.MaxInt, ""), edit(math.MaxInt, math.MinInt, ""),
		edit(0, math.MaxInt, ""), edit(math.MaxInt, math.MaxInt, "a"), edit(math.MinInt, math.MinInt, "a"),
	}
}

// spliced is the text behind an edit that fits it, made byte by byte.
func spliced(text string, e api.Edit) string {
	var out []byte
	for i := 0; i < e.Start; i++ {
		out = append(out, text[i])
	}
	out = append(out, e.Text...)
	for i := e.End; i < len(text); i++ {
		out = append(out, text[i])
	}
	return string(out)
}

func fits(n int, e api.Edit) bool {
	return 0 <= e.Start && e.Start <= e.End && e.End <= n
}
