package indent_test

import (
	"math"
	"slices"
	"strings"
	"testing"

	"rootstock/api"
	"rootstock/indent"
)

// wrongMarks are those that may not be, in each way.
func wrongMarks() []api.Mark {
	l := []api.Mark{
		// No column; one that is not 0 ahead of all.
		{}, {Cols: []int{}}, {Fresh: true}, {Cols: []int{1}}, {Cols: []int{-1}}, {Cols: []int{-1, 0}}, {Cols: []int{1, 2}}, {Cols: []int{math.MinInt, 0, 1}}, {Cols: []int{math.MaxInt}},
		// Columns that do not rise.
		{Cols: []int{0, 0}}, {Cols: []int{0, -1}}, {Cols: []int{0, 2, 2}}, {Cols: []int{0, 2, 1}}, {Cols: []int{0, 2, 4, 3, 8}}, {Cols: []int{0, 1, 2, 3, 0}}, {Cols: []int{0, 5, math.MinInt}},
		// Columns beyond the last one that counts; be it one of many.
		{Cols: []int{0, 4097}}, {Cols: []int{0, 4096, 4097}}, {Cols: []int{0, math.MaxInt}}, {Cols: []int{0, 4097, 3}}, {Cols: []int{0, 1 << 40, 1 << 50}},
	}
	for _, m := range []api.Mark{fresh(0, 0), within(1, 1, 2)} {
		for _, n := range []int{-1, math.MinInt, api.MaxText + 1, math.MaxInt} {
			l = append(l, changed(m, func(m *api.Mark) { m.Open = n }), changed(m, func(m *api.Mark) { m.Lead = n }), changed(m, func(m *api.Mark) { m.Col = n }))
		}
		l = append(l, changed(m, func(m *api.Mark) { m.Col = api.MaxColumn + 1 }), changed(m, func(m *api.Mark) { m.Col = api.MaxText }))
	}
	long := make([]int, 100000)
	for i := range long {
		long[i] = i
	}
	return append(l, api.Mark{Cols: long}, api.Mark{Cols: long[:4098]}, api.Mark{Cols: make([]int, 5000)})
}

func TestMarksThatMayNotBe(t *testing.T) {
	for _, m := range wrongMarks() {
		for _, begun := range []bool{false, true} {
			m.Fresh = !begun
			ends(t, m)
			for _, kind := range kinds() {
				stays(t, m, "a", api.Raw{Kind: kind, Len: 1, Look: 1})
				stays(t, m, "  \t", api.Raw{Kind: kind, Len: 3, Look: 4})
			}
			// With each other wrong input, too.
			stays(t, m, "", api.Raw{})
			stays(t, m, "a", api.Raw{Len: 2})
			stays(t, m, "", api.Raw{Len: -1})
			stays(t, m, strings.Repeat("a", api.MaxText+1), api.Raw{Len: api.MaxText + 1})
		}
	}
	// The ones at the bounds may be.
	for _, m := range []api.Mark{{Cols: []int{0, 4096}}, within(0, api.MaxText), within(api.MaxText, 0), fresh(0, api.MaxColumn), {Cols: []int{0, 1, 2, 3}, Col: api.MaxColumn}} {
		if len(indent.End(m)) == 0 {
			t.Errorf("%v", m)
		}
	}
}

func TestTextsThatAreNotThePieces(t *testing.T) {
	for _, m := range []api.Mark{fresh(0, 0), fresh(2, 2, 1), within(0, 0), within(3, 2, 4)} {
		for _, kind := range kinds() {
			for _, text := range []string{"", "a", "ab", "\n", "  \t", strings.Repeat(" ", api.MaxText), strings.Repeat("a", api.MaxText+1), strings.Repeat("a", 3*api.MaxText)} {
				for _, n := range []int{math.MinInt, -api.MaxText, -2, -1, 0, 1, 2, 3, 4, api.MaxText, api.MaxText + 1, 3 * api.MaxText, math.MaxInt} {
					if n != len(text) || n < 1 || n > api.MaxText-m.Lead {
						stays(t, m, text, api.Raw{Kind: kind, Len: n, Look: 1})
					}
				}
			}
		}
	}
}

// wrongPieces are texts with lists that are not their pieces, in each way.
func wrongPieces() []struct {
	text string
	l    []api.Raw
} {
	long := strings.Repeat("a", api.MaxText)
	one := api.Raw{Kind: api.KName, Len: 1, Look: 1}
	of := func(lengths ...int) []api.Raw {
		var l []api.Raw
		for _, n := range lengths {
			l = append(l, api.Raw{Kind: api.KName, Len: n, Look: n})
		}
		return l
	}
	return []struct {
		text string
		l    []api.Raw
	}{
		// Too few, and too many bytes.
		{"a", nil}, {"a", []api.Raw{}}, {"abc", of(2)}, {"abc", of(1, 1)}, {long, nil}, {long, of(api.MaxText - 1)}, {long, times(api.MaxText-1, one)},
		{"", of(1)}, {"a", of(2)}, {"a", of(1, 1)}, {"abc", of(2, 2)}, {"abc", of(3, 1)}, {long, of(api.MaxText + 1)}, {long, times(api.MaxText+1, one)}, {"", times(2*api.MaxText, one)},
		// Pieces of no bytes, and of fewer than none, where the sum is right, and where it is not.
		{"", of(0)}, {"", of(0, 0)}, {"a", of(0)}, {"a", of(0, 1)}, {"a", of(1, 0)}, {"ab", of(1, 0, 1)}, {"", of(-1)}, {"", of(1, -1)}, {"", of(-1, 1)}, {"ab", of(3, -1)}, {"ab", of(-1, 3)}, {"a", of(math.MinInt)}, {"abc", of(1, 1, 2, -1)},
		// Lengths that wrap round.
		{"", of(math.MaxInt, math.MaxInt, 2)}, {"a", of(math.MaxInt, math.MaxInt, 3)}, {"ab", of(math.MinInt, math.MinInt, 2)}, {"a", of(math.MaxInt)}, {"a", of(1, math.MaxInt)}, {"a", of(1, math.MaxInt, math.MinInt, 1)}, {"", of(math.MinInt, math.MaxInt, 1)},
	}
}

func TestPiecesThatAreNotTheTexts(t *testing.T) {
	for i, x := range wrongPieces() {
		// Whatever the kinds are.
		for _, kind := range []int{api.KName, api.KSpace, api.KNewline, api.KEnd, -5, math.MaxInt} {
			l := slices.Clone(x.l)
			for j := range l {
				l[j].Kind = kind
			}
			refused(t, i, x.text, l, api.ErrArg)
		}
		// A text that is too long comes ahead of that.
		refused(t, i, x.text+strings.Repeat("a", api.MaxText+1), x.l, api.ErrLong)
	}
}

func TestTextsThatAreTooLong(t *testing.T) {
	for _, n := range []int{api.MaxText + 1, api.MaxText + 2, 2 * api.MaxText, 5 * api.MaxText} {
		text := strings.Repeat("a\n", n)[:n]
		refused(t, n, text, times(n, api.Raw{Kind: api.KName, Len: 1, Look: 1}), api.ErrLong)
		refused(t, n, text, []api.Raw{{Kind: api.KName, Len: n, Look: n}}, api.ErrLong)
		refused(t, n, text, []api.Raw{{Kind: api.KSpace, Len: n - 1, Look: n}, {Kind: api.KNewline, Len: 1, Look: 1}}, api.ErrLong)
		refused(t, n, text, nil, api.ErrLong)
		refused(t, n, text, []api.Raw{{}}, api.ErrLong)
		refused(t, n, text, []api.Raw{{Len: -1}, {Len: n + 1}}, api.ErrLong)
		refused(t, n, text, []api.Raw{{Len: api.MaxText}}, api.ErrLong)
	}
}
