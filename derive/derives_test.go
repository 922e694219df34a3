package derive_test

import (
	"testing"

	"rootstock/api"
	"rootstock/derive"
)

func TestExamples(t *testing.T) {
	g := sums()
	counts(t, g, 2, []int{0}, 1)
	counts(t, g, 2, []int{0, 1, 0}, 1)
	counts(t, g, 2, []int{0, 1}, 0)
	counts(t, g, 2, nil, 0)
	judged(t, g, []int{0, 1}, 2, false)
	judged(t, g, []int{1}, 0, false)
	judged(t, g, []int{0, 1, 0}, 3, true)
	judged(t, g, []int{0, 0}, 1, false)
	judged(t, g, nil, 0, false)
	counts(t, g, 2, []int{0, 1, 0, 1, 0}, 2)
	counts(t, g, 2, []int{0, 1, 0, 1, 0, 1, 0}, 5)
	refuses(t, g, 3, []int{0}, api.ErrArg)
	refuses(t, g, 2, []int{2}, api.ErrArg)
	fits(t, g, leaf(0), api.OK)
	fits(t, g, tree(0, 0), api.ErrBroken)
	fits(t, g, tree(2, 1, leaf(1)), api.ErrBroken)
}

func TestEmptyRow(t *testing.T) {
	for _, g := range []api.Grammar{sums(), of(1, 2, prod(1, 0)), of(2, 4, prod(2, 3, 0), prod(3, 1), prod(3, 3, 3))} {
		for sym := range g.Symbols {
			counts(t, g, sym, nil, 0)
			counts(t, g, sym, []int{}, 0)
		}
		judged(t, g, nil, 0, false)
		judged(t, g, []int{}, 0, false)
	}
}

func TestTerminals(t *testing.T) {
	// A terminal becomes the row of itself alone, whether it is used anywhere or not.
	g := of(4, 6, prod(4, 0, 5), prod(5, 2))
	for sym := range g.Terms {
		counts(t, g, sym, []int{sym}, 1)
		counts(t, g, sym, []int{sym, sym}, 0)
		counts(t, g, sym, times(64, sym), 0)
		counts(t, g, sym, []int{(sym + 1) % 4}, 0)
		counts(t, g, sym, []int{(sym + 1) % 4, sym}, 0)
		counts(t, g, sym, []int{sym, (sym + 1) % 4}, 0)
		counts(t, g, sym, nil, 0)
	}
	// So does one that Start becomes.
	g = of(2, 3, prod(2, 0), prod(2, 1, 2))
	counts(t, g, 0, []int{0}, 1)
	counts(t, g, 1, []int{0}, 0)
	counts(t, g, 0, []int{1, 0}, 0)
}

func TestRowsOfOneTerminal(t *testing.T) {
	g := of(3, 5, prod(3, 4, 1), prod(3, 0), prod(4, 2), prod(4, 0))
	for s, want := range [][]int{{1, 1}, {0, 0}, {0, 1}} {
		counts(t, g, 3, []int{s}, want[0])
		counts(t, g, 4, []int{s}, want[1])
	}
	judged(t, g, []int{0}, 1, true)
	judged(t, g, []int{1}, 0, false)
	judged(t, g, []int{2}, 1, false)
}

func TestOneRowAlone(t *testing.T) {
	g := of(3, 5, prod(3, 4, 1, 4), prod(4, 0, 2))
	row := []int{0, 2, 1, 0, 2}
	for _, r := range rowsUpTo(3, 6) {
		n, want := 0, 0
		for n < min(len(r), len(row)) && r[n] == row[n] {
			n++
		}
		if n == len(row) && n == len(r) {
			want = 1
		}
		counts(t, g, 3, r, want)
		judged(t, g, r, n, want > 0)
	}
}

func TestRowsOfOneLength(t *testing.T) {
	// Start becomes all rows of four terminals, its Body's symbols all of two.
	g := of(2, 5, prod(2, 3, 3), prod(3, 4, 4), prod(4, 0), prod(4, 1))
	for _, r := range rowsUpTo(2, 6) {
		for sym, n := range []int{2: 4, 3: 2, 4: 1} {
			if sym < 2 {
				continue
			}
			want := 0
			if len(r) == n {
				want = 1
			}
			counts(t, g, sym, r, want)
		}
		judged(t, g, r, min(len(r), 4), len(r) == 4)
	}
}

func TestLengthsOfBodies(t *testing.T) {
	for n := 1; n <= api.MaxBody; n++ {
		// A Body of terminals alone, and one of heads.
		g := of(2, 4, prod(2, times(n, 3)...), prod(3, 1))
		h := of(2, 3, prod(2, times(n, 1)...))
		// Heads of it that may have more.
		k := of(2, 4, prod(2, times(n, 3)...), prod(3, 1), prod(3, 1, 1))
		for length := range 18 {
			row := times(length, 1)
			want := 0
			if length == n {
				want = 1
			}
			counts(t, g, 2, row, want)
			counts(t, h, 2, row, want)
			judged(t, g, row, min(length, n), length == n)
			judged(t, h, row, min(length, n), length == n)
			counts(t, k, 2, row, choose(n, length-n))
			judged(t, k, row, min(length, 2*n), n <= length && length <= 2*n)
			// One terminal that is none of the Body's, at each place.
			for i := range row {
				row[i] = 0
				counts(t, g, 2, row, 0)
				counts(t, h, 2, row, 0)
				counts(t, k, 2, row, 0)
				judged(t, g, row, min(i, n), false)
				judged(t, k, row, min(i, 2*n), false)
				row[i] = 1
			}
		}
	}
}

// choose is in how many ways one takes k of n.
func choose(n, k int) int {
	if k < 0 || k > n {
		return 0
	}
	m := 1
	for i := range k {
		m = m * (n - i) / (i + 1)
	}
	return m
}

func TestSymbolsThatBecomeThemselves(t *testing.T) {
	// At the front, at the back, in the middle, at both ends, and more than once.
	front := of(2, 3, prod(2, 2, 1), prod(2, 0))
	back := of(2, 3, prod(2, 1, 2), prod(2, 0))
	middle := of(2, 3, prod(2, 1, 2, 1), prod(2, 0))
	twice := of(2, 3, prod(2, 2, 2), prod(2, 0))
	both := of(2, 3, prod(2, 2, 1, 2), prod(2, 0))
	for n := range 9 {
		ones := times(n, 1)
		counts(t, front, 2, append([]int{0}, ones...), 1)
		counts(t, back, 2, append(times(n, 1), 0), 1)
		counts(t, middle, 2, append(append(times(n, 1), 0), ones...), 1)
		judged(t, front, append([]int{0}, ones...), n+1, true)
		judged(t, back, append(times(n, 1), 0), n+1, true)
		judged(t, back, ones, n, false)
		judged(t, middle, ones, n, false)
		judged(t, middle, append(append(times(n, 1), 0), ones...), 2*n+1, true)
		judged(t, middle, append(append(times(n, 1), 0, 1), ones...), 2*n+1, false)
		judged(t, twice, append(times(n, 0), 1), n, false)
		judged(t, both, append([]int{0, 1, 0}, ones...), min(n, 1)+3, n == 0)
	}
	counts(t, front, 2, []int{1, 0}, 0)
	counts(t, back, 2, []int{0, 1}, 0)
	counts(t, middle, 2, []int{1, 0}, 0)
	counts(t, middle, 2, []int{0, 1}, 0)
	judged(t, front, []int{1, 0}, 0, false)
	judged(t, back, []int{0, 1}, 1, false)
	judged(t, middle, []int{0, 1}, 1, false)
	// By another head, in both orders of their numbers.
	for _, g := range []api.Grammar{
		of(2, 4, prod(2, 3, 1), prod(3, 2), prod(3, 0)),
		of(2, 4, prod(2, 3), prod(3, 2, 1), prod(3, 0, 1)),
	} {
		counts(t, g, 2, []int{0, 1, 1, 1}, 1)
		counts(t, g, 3, []int{0, 1, 1, 1}, 1)
		judged(t, g, []int{0, 1, 1, 0}, 3, false)
		judged(t, g, []int{0}, 1, false)
	}
}

func TestChainsOfSingleSymbols(t *testing.T) {
	// Each head but the last becomes the next one alone, whichever production stands first, and whichever number comes first.
	d := dice(1)
	for range 200 {
		terms := 1 + d.roll(5)
		heads := 2 + d.roll(api.MaxSymbols-terms-1)
		names := make([]int, heads)
		for i := range names {
			names[i] = terms + i
		}
		mix(&d, names)
		var l []api.Prod
		for i, head := range names[1:] {
			l = append(l, prod(names[i], head))
		}
		l = append(l, prod(names[heads-1], 0), prod(names[heads-1], 0, names[0]))
		l = l[:min(len(l), api.MaxProds)]
		mix(&d, l)
		g := of(terms, terms+heads, l...)
		g.Start = names[0]
		for _, head := range names {
			counts(t, g, head, []int{0}, 1)
			if len(l) == heads+1 {
				counts(t, g, head, []int{0, 0, 0}, 1)
			}
		}
		judged(t, g, []int{0}, 1, true)
	}
	// By many chains side by side.
	g := of(1, 6, prod(1, 2), prod(1, 3), prod(2, 4), prod(3, 4), prod(4, 5), prod(5, 0), prod(4, 0), prod(5, 1, 1))
	counts(t, g, 5, []int{0}, 1)
	counts(t, g, 4, []int{0}, 2)
	counts(t, g, 2, []int{0}, 2)
	counts(t, g, 1, []int{0}, 4)
	counts(t, g, 5, []int{0, 0}, 16)
	counts(t, g, 1, []int{0, 0}, 32)
}

func TestStart(t *testing.T) {
	// As a terminal's only head; and within Bodies, of others' too.
	g := of(2, 4, prod(2, 0), prod(2, 3, 3), prod(3, 1, 2))
	counts(t, g, 2, []int{0}, 1)
	counts(t, g, 2, []int{1, 0, 1, 0}, 1)
	counts(t, g, 3, []int{1, 1, 0, 1, 0}, 1)
	judged(t, g, []int{1, 0, 1, 1, 0, 1, 0}, 7, true)
	judged(t, g, []int{1, 0, 0}, 2, false)
	// What other heads become is no sentence, and no beginning of one either.
	g = of(3, 5, prod(3, 0, 4), prod(4, 1, 2))
	counts(t, g, 4, []int{1, 2}, 1)
	judged(t, g, []int{1, 2}, 0, false)
	judged(t, g, []int{0, 1, 2}, 3, true)
	judged(t, g, []int{0, 1, 0}, 2, false)
	// Start need not be the first head.
	g.Start = 4
	g.Prods = []api.Prod{prod(3, 1, 2), prod(4, 0, 3), prod(4, 3)}
	judged(t, g, []int{1, 2}, 2, true)
	judged(t, g, []int{0, 1, 2}, 3, true)
	judged(t, g, []int{0, 0}, 1, false)
}

func TestWhereRowsStopBeingViable(t *testing.T) {
	g := of(4, 6, prod(4, 4, 0, 5), prod(4, 5), prod(5, 1), prod(5, 2, 4, 3))
	row := []int{2, 1, 0, 2, 1, 3, 0, 1, 3}
	judged(t, g, row, 9, true)
	for n := range row {
		judged(t, g, row[:n], n, false)
	}
	// At the first terminal, in the middle, and at the last.
	for n, bad := range []int{0, 0, 2, 3, 3, 2, 1, 3, 2} {
		other := append(append([]int{}, row[:n]...), bad)
		judged(t, g, other, n, false)
		judged(t, g, append(other, row[n+1:]...), n, false)
		judged(t, g, append(other, times(64-len(other), 1)...), n, false)
	}
	// Behind a sentence that nothing goes on from, and one that something does.
	judged(t, of(2, 3, prod(2, 0, 1)), []int{0, 1, 1}, 2, false)
	judged(t, of(2, 3, prod(2, 0, 1)), []int{0, 1}, 2, true)
	judged(t, g, []int{1, 3}, 1, false)
	judged(t, g, []int{1, 0}, 2, false)
	judged(t, g, []int{1}, 1, true)
}

func TestSentenceThatBeginsALongerOne(t *testing.T) {
	g := of(1, 2, prod(1, 0), prod(1, 0, 0, 0, 0))
	for n := range 7 {
		judged(t, g, times(n, 0), min(n, 4), n == 1 || n == 4)
	}
	// Viable by one production, a sentence by another.
	g = of(3, 4, prod(3, 0, 1), prod(3, 0, 1, 2, 2), prod(3, 0, 2))
	judged(t, g, []int{0}, 1, false)
	judged(t, g, []int{0, 1}, 2, true)
	judged(t, g, []int{0, 1, 2}, 3, false)
	judged(t, g, []int{0, 1, 2, 2}, 4, true)
	judged(t, g, []int{0, 2}, 2, true)
	judged(t, g, []int{0, 2, 2}, 2, false)
}

func TestRightsMakeNoDifference(t *testing.T) {
	g := sums()
	g.Prods[0].Right = true
	counts(t, g, 2, []int{0, 1, 0, 1, 0}, 2)
	judged(t, g, []int{0, 1, 1}, 2, false)
	fits(t, g, sum(number(), number()), api.OK)
}

// refuses holds what all calls that are asked for a row tell of what may not be asked; Viable and Judge are asked only where the symbol is one.
func refuses(t *testing.T, g api.Grammar, sym int, row []int, want api.Errno) {
	t.Helper()
	if is, e := derive.Derives(g, sym, row); is || e != want {
		t.Fatalf("Derives of %s, %d, %s: %v, %v, not %v", brief(g), sym, brief(row), is, e, want)
	}
	if n, e := derive.Count(g, sym, row); n != 0 || e != want {
		t.Fatalf("Count of %s, %d, %s: %v, %v, not %v", brief(g), sym, brief(row), n, e, want)
	}
	if sym != g.Start {
		return
	}
	if is, e := derive.Viable(g, row); is || e != want {
		t.Fatalf("Viable of %s, %s: %v, %v, not %v", brief(g), brief(row), is, e, want)
	}
	if v, e := derive.Judge(g, row); v != (api.Verdict{}) || e != want {
		t.Fatalf("Judge of %s, %s: %v, %v, not %v", brief(g), brief(row), v, e, want)
	}
}
