package derive_test

import (
	"math"
	"slices"
	"testing"

	"rootstock/api"
	"rootstock/derive"
	"rootstock/grams"
)

// numbers are those that are never a symbol's.
func numbers() []int {
	return []int{-1, -2, -64, math.MinInt, math.MinInt32, 64, 65, 1 << 20, math.MaxInt32, math.MaxInt, 1 << 32, 1<<32 + 1}
}

// wrongGrammars are of each error of grams.Check some that it tells.
func wrongGrammars(t *testing.T) []api.Grammar {
	t.Helper()
	with := func(l ...api.Prod) api.Grammar {
		g := sums()
		g.Prods = append(g.Prods, l...)
		return g
	}
	var arg []api.Grammar
	for _, n := range append(numbers(), 0, 1) {
		for _, change := range []func(*api.Grammar){
			func(g *api.Grammar) { g.Terms = n * 40 },
			func(g *api.Grammar) { g.Symbols = min(n, 2) },
			func(g *api.Grammar) { g.Start = n },
			func(g *api.Grammar) { g.Prods[0].Head = n },
		} {
			g := sums()
			change(&g)
			arg = append(arg, g)
		}
	}
	for _, n := range numbers() {
		arg = append(arg, with(prod(2, n)), with(prod(2, 0, n)), with(prod(n, 0)))
	}
	arg = append(arg, api.Grammar{}, of(2, 3), of(33, 34, prod(33, 0)), of(1, 65, prod(1, 0)), with(prod(2, 0)), with(times(63, prod(2, 1))...))
	var l []api.Grammar
	for _, c := range []struct {
		e    api.Errno
		some []api.Grammar
	}{
		{api.ErrArg, arg},
		{api.ErrLong, []api.Grammar{with(prod(2, times(9, 0)...)), with(prod(2, times(70000, 0)...))}},
		{api.ErrEmpty, []api.Grammar{with(prod(2)), with(prod(2, []int{}...))}},
		{api.ErrUnused, []api.Grammar{of(1, 3, prod(1, 0)), of(1, 2, prod(1, 1, 0)), of(1, 3, prod(1, 0), prod(1, 2, 0), prod(2, 2, 0))}},
		{api.ErrCycle, []api.Grammar{with(prod(2, 2)), of(1, 3, prod(1, 0), prod(1, 2), prod(2, 1))}},
	} {
		for _, g := range c.some {
			if e := grams.Check(g); e != c.e {
				t.Fatalf("%s: %v, not %v", brief(g), e, c.e)
			}
			l = append(l, g)
		}
	}
	return l
}

// wrongRows are rows that have a number that is no terminal of E: long ones, too.
func wrongRows() [][]int {
	var l [][]int
	for _, n := range append(numbers(), 2, 3) {
		l = append(l, []int{n}, []int{0, n}, []int{n, 0}, []int{0, 1, n, 1, 0}, append(times(63, 0), n), append(times(64, 0), n), append([]int{n}, times(100, 0)...), append(times(1<<17, 1), n))
	}
	return l
}

// longRows are rows of E's terminals that are too long.
func longRows() [][]int {
	return [][]int{times(65, 0), times(66, 1), slices.Repeat([]int{0, 1}, 33), times(1000, 0), times(1<<20, 1)}
}

func TestGrammarsThatMayNotBe(t *testing.T) {
	for _, g := range wrongGrammars(t) {
		want := grams.Check(g)
		for _, sym := range []int{g.Start, 0, 2, 3, -1, math.MaxInt} {
			for _, row := range [][]int{nil, {0}, {0, 1, 0}, {2}, {-1}, times(65, 0), append(times(65, 0), 9)} {
				refuses(t, g, sym, row, want)
			}
		}
		for _, x := range []api.Tree{number(), leaf(0), leaf(9), tree(2, 9), tree(2, 0, leaf(0)), {}} {
			fits(t, g, x, want)
		}
	}
}

func TestSymbolsThatAreNone(t *testing.T) {
	for _, sym := range append(numbers(), 3, 4, 63) {
		for _, row := range append(append(wrongRows(), longRows()...), nil, []int{0}, []int{0, 1, 0}, times(64, 0)) {
			refuses(t, sums(), sym, row, api.ErrArg)
		}
	}
	// The last one that may be is one.
	g := of(1, api.MaxSymbols)
	for head := 1; head < api.MaxSymbols; head++ {
		g.Prods = append(g.Prods, prod(head, (head+1)%api.MaxSymbols))
	}
	for sym := range api.MaxSymbols {
		counts(t, g, sym, []int{0}, 1)
	}
	refuses(t, g, api.MaxSymbols, []int{0}, api.ErrArg)
}

func TestRowsThatAreNone(t *testing.T) {
	for _, row := range wrongRows() {
		for sym := range 3 {
			refuses(t, sums(), sym, row, api.ErrArg)
		}
	}
	// A head is no terminal, though a symbol.
	g := of(2, 5, prod(2, 3, 4), prod(3, 0), prod(4, 1))
	for _, row := range [][]int{{2}, {3, 1}, {3, 4}, {0, 4}, {0, 1, 2}} {
		for sym := range 5 {
			refuses(t, g, sym, row, api.ErrArg)
		}
	}
	counts(t, g, 2, []int{0, 1}, 1)
}

func TestRowsThatAreTooLong(t *testing.T) {
	for _, row := range longRows() {
		for sym := range 3 {
			refuses(t, sums(), sym, row, api.ErrLong)
		}
	}
	// So is one that no symbol could become, and one whose first terminal is wrong.
	refuses(t, of(1, 2, prod(1, 0)), 1, times(65, 0), api.ErrLong)
	refuses(t, sums(), 2, append([]int{1}, times(64, 0)...), api.ErrLong)
}

func TestMixedFaults(t *testing.T) {
	d := dice(14)
	wrong, rows, long := wrongGrammars(t), wrongRows(), longRows()
	good := [][]int{nil, {0}, {0, 1}, {0, 1, 0}, times(64, 1)}
	had := map[api.Errno]int{}
	for range 20000 {
		g, sym, row, want := sums(), 2, good[d.roll(len(good))], api.OK
		if d.roll(2) == 0 {
			row, want = long[d.roll(len(long)-2)], api.ErrLong
		}
		if d.roll(2) == 0 {
			row, want = rows[d.roll(len(rows))], api.ErrArg
		}
		if d.roll(2) == 0 {
			sym, want = numbers()[d.roll(len(numbers()))], api.ErrArg
		}
		if d.roll(2) == 0 {
			g = wrong[d.roll(len(wrong))]
			want = grams.Check(g)
		}
		had[want]++
		if want != api.OK {
			refuses(t, g, sym, row, want)
		} else if _, e := derive.Derives(g, sym, row); e != api.OK {
			t.Fatalf("%v, %d, %v: %v", g, sym, row, e)
		}
	}
	for _, e := range []api.Errno{api.OK, api.ErrArg, api.ErrLong, api.ErrEmpty, api.ErrUnused, api.ErrCycle} {
		if had[e] < 50 {
			t.Errorf("only %d of %v", had[e], e)
		}
	}
}
