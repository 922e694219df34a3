package derive_test

import (
	"slices"
	"testing"

	"rootstock/api"
)

// doubles becomes a row of n terminals 0 in 2 to the n ways.
func doubles() api.Grammar {
	return of(2, 5, prod(2, 2, 3), prod(2, 3), prod(3, 0), prod(3, 4), prod(4, 0))
}

// pairs is of one head alone, which becomes two of itself, or a terminal.
func pairs() api.Grammar { return of(1, 2, prod(1, 1, 1), prod(1, 0)) }

func TestCountOfSums(t *testing.T) {
	// How many trees with two parts at each node there are of n leaves.
	want := []int{1, 1, 2, 5, 14, 42, 132, 429, 1430, 4862, 16796, 58786, 208012, 742900, 2674440, 9694845, 35357670, 129644790, 477638700}
	row := []int{0}
	for n, w := range want {
		counts(t, pairs(), 1, times(n+1, 0), w)
		counts(t, sums(), 2, row, w)
		counts(t, sums(), 2, append(slices.Clone(row), 1), 0)
		row = append(row, 1, 0)
	}
	for len(row) <= api.MaxRow {
		isMany(t, sums(), 2, row)
		counts(t, sums(), 2, append(slices.Clone(row), 0)[:min(len(row)+1, api.MaxRow)], 0)
		row = append(row, 1, 0)
	}
	for n := len(want) + 1; n <= api.MaxRow; n++ {
		isMany(t, pairs(), 1, times(n, 0))
	}
}

func TestCountOfThrees(t *testing.T) {
	g := of(1, 2, prod(1, 1, 1, 1), prod(1, 0))
	for i, w := range []int{1, 1, 3, 12, 55, 273, 1428, 7752, 43263, 246675} {
		counts(t, g, 1, times(2*i+1, 0), w)
		counts(t, g, 1, times(2*i+2, 0), 0)
	}
}

func TestCountUpToMaxCount(t *testing.T) {
	g := doubles()
	counts(t, g, 3, []int{0}, 2)
	counts(t, g, 4, []int{0}, 1)
	for n := 1; n <= api.MaxRow; n++ {
		row := times(n, 0)
		if n <= 30 {
			counts(t, g, 2, row, 1<<n)
		} else {
			isMany(t, g, 2, row)
		}
		row[n/2] = 1
		counts(t, g, 2, row, 0)
	}
}

func TestCountOfMaxCountBySums(t *testing.T) {
	// Start becomes what doubles does, or what another head does: in one way, or in as many.
	one := api.Grammar{Terms: 2, Symbols: 8, Start: 5, Prods: append(doubles().Prods, prod(5, 2), prod(5, 6), prod(5, 2, 1), prod(5, 6, 1), prod(6, 6, 7), prod(6, 7), prod(7, 0))}
	asMany := api.Grammar{Terms: 2, Symbols: 7, Start: 5, Prods: append(doubles().Prods, prod(5, 2), prod(5, 6), prod(5, 2, 1), prod(5, 6, 1), prod(6, 6, 3), prod(6, 3))}
	for n := 1; n < api.MaxRow; n++ {
		for _, row := range [][]int{times(n, 0), append(times(n, 0), 1)} {
			if n < 30 {
				counts(t, one, 5, row, 1<<n+1)
				counts(t, asMany, 5, row, 2<<n)
			} else {
				isMany(t, one, 5, row)
				isMany(t, asMany, 5, row)
			}
		}
	}
	counts(t, one, 2, times(30, 0), api.MaxCount)
	counts(t, asMany, 5, times(29, 0), api.MaxCount)
}

func TestCountOfMaxCountByProducts(t *testing.T) {
	g := api.Grammar{Terms: 2, Symbols: 6, Start: 5, Prods: append(doubles().Prods, prod(5, 2, 1, 2))}
	for a := 1; a < 40; a += 3 {
		for b := 1; a+b < api.MaxRow; b++ {
			row := append(append(times(a, 0), 1), times(b, 0)...)
			if a+b <= 30 {
				counts(t, g, 5, row, 1<<(a+b))
			} else {
				isMany(t, g, 5, row)
			}
		}
	}
}

func TestCountOfPowers(t *testing.T) {
	// Each head is two of the one below it: the last one's number is 2 to the 64.
	g := of(1, 9, prod(1, 0), prod(2, 0), prod(2, 1))
	for head := 3; head < 9; head++ {
		g.Prods = append(g.Prods, prod(head, head-1, head-1))
	}
	g.Start = 8
	for head, want := range []int{3: 1 << 2, 4: 1 << 4, 5: 1 << 8, 6: 1 << 16} {
		if head >= 3 {
			counts(t, g, head, times(1<<(head-2), 0), want)
		}
	}
	isMany(t, g, 7, times(32, 0))
	isMany(t, g, 8, times(64, 0))
	judged(t, g, times(64, 0), 64, true)
	for n := range 64 {
		counts(t, g, 8, times(n, 0), 0)
	}
}

func TestNumbersOnTheWayThatAreLarger(t *testing.T) {
	// Of what doubles and pairs become there are far too many trees; none of them is one of Start's, or few are.
	for _, s := range []api.Grammar{doubles(), of(2, 5, prod(2, 2, 2), prod(2, 3), prod(3, 4), prod(4, 0)), of(2, 5, prod(2, 2, 2, 2), prod(2, 2, 2), prod(2, 3), prod(3, 4), prod(4, 0))} {
		g := api.Grammar{Terms: 2, Symbols: 8, Start: 5, Prods: append(s.Prods, prod(5, 2, 1), prod(5, 1, 2), prod(5, 6, 1, 1), prod(5, 1, 1, 6), prod(6, 6, 7), prod(6, 7), prod(7, 0))}
		for _, n := range []int{31, 32, 40, 62} {
			row := times(n, 0)
			isMany(t, g, 2, row)
			counts(t, g, 5, row, 0)
			isMany(t, g, 5, append(row, 1))
			isMany(t, g, 5, append([]int{1}, row...))
			counts(t, g, 5, append(row, 1, 1), 1)
			counts(t, g, 5, append([]int{1, 1}, row...), 1)
			counts(t, g, 5, append(append([]int{1}, row...), 1), 0)
			counts(t, g, 6, row, 1)
			judged(t, g, row, n, false)
		}
	}
}

func TestCountByEachPlaceOfABody(t *testing.T) {
	// Each place of a Body gives its number, wherever it stands.
	g := doubles()
	for n := 1; n <= api.MaxBody; n++ {
		for at := range n {
			body := times(n, 1)
			body[at] = 2
			h := api.Grammar{Terms: 2, Symbols: 6, Start: 5, Prods: append(slices.Clone(g.Prods), prod(5, body...))}
			for many := 1; many <= 34; many++ {
				row := slices.Concat(times(at, 1), times(many, 0), times(n-1-at, 1))
				if many <= 30 {
					counts(t, h, 5, row, 1<<many)
				} else {
					isMany(t, h, 5, row)
				}
			}
		}
	}
}
