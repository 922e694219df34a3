package derive_test

import (
	"slices"
	"testing"
	"time"

	"rootstock/api"
)

// brackets are 0 and 1, each 0 with its 1, side by side and within one another.
func brackets() api.Grammar {
	return of(2, 4, prod(2, 2, 3), prod(2, 3), prod(3, 0, 2, 1), prod(3, 0, 1))
}

func TestLongBrackets(t *testing.T) {
	g := brackets()
	d := dice(8)
	had := 0
	for range 150 {
		// A mixed walk of any length, the likelier to go on well the longer it is.
		row := make([]int, d.roll(api.MaxRow+1))
		open, viable := 0, len(row)
		for i := range row {
			row[i] = d.roll(2)
			if open == 0 && d.roll(40) > 0 {
				row[i] = 0
			} else if open == len(row)-i {
				row[i] = 1
			}
			open += 1 - 2*row[i]
			if open < 0 {
				viable = min(viable, i)
			}
		}
		is := viable == len(row) && open == 0 && len(row) > 0
		if is && len(row) > 20 {
			had++
		}
		judged(t, g, row, viable, is)
		if is {
			counts(t, g, 2, row, 1)
		}
	}
	if had < 15 {
		t.Errorf("only %d long ones", had)
	}
}

func TestLongMirrors(t *testing.T) {
	// What stands behind the middle is what stands ahead of it, from behind.
	g := of(3, 4, prod(3, 0, 3, 0), prod(3, 1, 3, 1), prod(3, 2))
	d := dice(9)
	for range 70 {
		half := d.row(d.roll(32), 2)
		back := slices.Clone(half)
		slices.Reverse(back)
		row := slices.Concat(half, []int{2}, back)
		judged(t, g, row, len(row), true)
		counts(t, g, 3, row, 1)
		judged(t, g, append(row, d.roll(3))[:min(len(row)+1, 64)], len(row), false)
		judged(t, g, row[:len(half)], len(half), false)
		judged(t, g, row[:len(row)-1], len(row)-1, false)
		i := d.roll(len(row))
		row[i] = (row[i] + 1) % 3
		switch {
		case i > len(half):
			judged(t, g, row, i, false)
		case i == len(half):
			// The middle is none: if it goes on at all, that is as a longer half.
			judged(t, g, row, len(row), false)
		case row[i] == 2:
			stop := i + 1
			for stop < len(row) && stop <= 2*i && row[stop] == row[2*i-stop] {
				stop++
			}
			judged(t, g, row, stop, false)
		default:
			judged(t, g, row, 2*len(half)-i, false)
		}
	}
}

func TestRowsOfMaxRow(t *testing.T) {
	front, back, each := of(2, 3, prod(2, 2, 0), prod(2, 1)), of(2, 3, prod(2, 0, 2), prod(2, 1)), of(2, 3, prod(2, 2, 2), prod(2, 0), prod(2, 1))
	for n := 60; n <= 70; n++ {
		row := append(times(n-1, 0), 1)
		if n > api.MaxRow {
			for sym := range 3 {
				refuses(t, front, sym, row, api.ErrLong)
				refuses(t, back, sym, row, api.ErrLong)
				refuses(t, each, sym, row, api.ErrLong)
			}
			continue
		}
		judged(t, front, row, 0, false)
		judged(t, back, row, n, true)
		judged(t, each, row, n, true)
		counts(t, back, 2, row, 1)
		counts(t, back, 1, row, 0)
		slices.Reverse(row)
		judged(t, front, row, n, true)
		judged(t, back, row, 1, false)
		judged(t, each, row, n, true)
		counts(t, front, 2, row, 1)
	}
}

// dense are grammars of which a row has as many ways as may be: of one head with bodies of eight symbols, of many such heads, and of heads with bodies of all lengths.
func dense() []api.Grammar {
	one, many, all := of(1, 2, prod(1, 0)), of(1, 32), of(1, 8)
	for n := range 63 {
		body := make([]int, 8)
		for i := range body {
			body[i] = 1 - n>>i&1
		}
		one.Prods = append(one.Prods, prod(1, body...))
	}
	for head := 1; head < 32; head++ {
		body := make([]int, 8)
		for i := range body {
			body[i] = 1 + (3*head+7*i*i)%31
		}
		many.Prods = append(many.Prods, prod(head, 0), prod(head, body...))
	}
	for head := 1; head < 8; head++ {
		all.Prods = append(all.Prods, prod(head, 0))
		for n := 2; n <= 8; n++ {
			all.Prods = append(all.Prods, prod(head, times(n, 1+(head+n)%7)...))
		}
	}
	return []api.Grammar{one, many, all, pairs()}
}

// widened is a grammar with one terminal more.
func widened(g api.Grammar) api.Grammar {
	g = copied(g)
	wide := func(n int) int {
		if n < g.Terms {
			return n
		}
		return n + 1
	}
	for i, p := range g.Prods {
		g.Prods[i].Head = wide(p.Head)
		for k, s := range p.Body {
			p.Body[k] = wide(s)
		}
	}
	g.Terms, g.Symbols, g.Start = g.Terms+1, g.Symbols+1, g.Start+1
	return g
}

func TestLongRowsInGoodTime(t *testing.T) {
	begin := time.Now()
	row := times(api.MaxRow, 0)
	for _, g := range dense() {
		judged(t, g, row, api.MaxRow, true)
		for _, sym := range []int{1, g.Symbols - 1} {
			isMany(t, g, sym, row)
		}
		// With one terminal more, which is used nowhere.
		g = widened(g)
		judged(t, g, append(row[1:], 1), api.MaxRow-1, false)
	}
	if took := time.Since(begin); took > 20*time.Second {
		t.Errorf("%v", took)
	}
}
