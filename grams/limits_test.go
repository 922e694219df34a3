package grams_test

import (
	"slices"
	"testing"

	"rootstock/api"
	"rootstock/grams"
)

// chain is a grammar of one terminal and as many heads as may be, each of which leads to the next one, and to nothing else.
func chain() api.Grammar {
	g := of(1, api.MaxSymbols)
	for head := 1; head < api.MaxSymbols-1; head++ {
		g.Prods = append(g.Prods, prod(head, head+1))
	}
	g.Prods = append(g.Prods, prod(api.MaxSymbols-1, 0))
	return g
}

// ring is a chain whose last head leads back to the first one, among other symbols.
func ring() api.Grammar {
	g := chain()
	g.Prods = append(g.Prods, prod(api.MaxSymbols-1, 1, 0))
	return g
}

func TestChains(t *testing.T) {
	for _, turned := range []bool{false, true} {
		g, r := chain(), ring()
		round := of(1, api.MaxSymbols, append(chain().Prods, prod(api.MaxSymbols-1, 1))...)
		if turned {
			slices.Reverse(g.Prods)
			slices.Reverse(r.Prods)
			slices.Reverse(round.Prods)
		}
		checks(t, g, api.OK)
		first(t, g, times(api.MaxSymbols, []int{0})...)
		follow(t, g, times(api.MaxSymbols, []int{1})...)
		checks(t, r, api.OK)
		first(t, r, times(api.MaxSymbols, []int{0})...)
		follow(t, r, times(api.MaxSymbols, []int{0, 1})...)
		// By one production more all of them go round.
		checks(t, round, api.ErrCycle)
		// By one less, whichever one, some are not come to.
		for i := range g.Prods {
			checks(t, of(1, api.MaxSymbols, slices.Delete(copied(g).Prods, i, i+1)...), api.ErrUnused)
		}
		// The last one's is what all are good for.
		for i, p := range g.Prods {
			if p.Body[0] == 0 {
				bad := copied(g)
				bad.Prods[i] = prod(p.Head, 0, 1)
				checks(t, bad, api.ErrUnused)
			}
		}
	}
}

func TestRingsOfEachLength(t *testing.T) {
	for n := 1; n < api.MaxSymbols; n++ {
		// The ring lies at the end of what leads to it.
		last := api.MaxSymbols - 1
		g := chain()
		g.Prods = append(g.Prods, prod(last, last-n+1))
		checks(t, g, api.ErrCycle)
		g.Prods[api.MaxProds-1] = prod(last, last-n+1, 0)
		checks(t, g, api.OK)
		g.Prods[api.MaxProds-1] = prod(last, 0, last-n+1)
		checks(t, g, api.OK)
	}
}

func TestHowManyTerminals(t *testing.T) {
	for _, terms := range []int{1, 2, 31, 32, 33, 34, 40, 63} {
		want := api.OK
		if terms > api.MaxTerms {
			want = api.ErrArg
		}
		g := of(terms, terms+1)
		for s := range terms {
			g.Prods = append(g.Prods, prod(terms, s))
		}
		checks(t, g, want)
	}
	// The end is a number of its own behind the last terminal.
	g := of(api.MaxTerms, api.MaxTerms+2, prod(api.MaxTerms, api.MaxTerms+1, api.MaxTerms), prod(api.MaxTerms, 31))
	all := make([]int, api.MaxTerms)
	for s := range all {
		all[s] = s
		g.Prods = append(g.Prods, prod(api.MaxTerms+1, s))
	}
	var firsts, behind [][]int
	for s := range all {
		firsts, behind = append(firsts, []int{s}), append(behind, all)
	}
	behind[31] = append(slices.Clone(all), api.MaxTerms)
	first(t, g, append(firsts, all, all)...)
	follow(t, g, append(behind, []int{api.MaxTerms}, all)...)
}

func TestHowManySymbols(t *testing.T) {
	for _, terms := range []int{1, 2, 31, 32} {
		for _, symbols := range []int{terms + 1, terms + 2, 63, 64, 65, 66, 128, 1000} {
			g := of(terms, symbols)
			for head := terms; head < symbols-1; head++ {
				g.Prods = append(g.Prods, prod(head, 0, head+1))
			}
			g.Prods = append(g.Prods, prod(symbols-1, 0))
			want := api.OK
			if symbols > api.MaxSymbols {
				want = api.ErrArg
			}
			checks(t, g, want)
		}
	}
}

func TestHowManyProductions(t *testing.T) {
	for _, n := range []int{0, 1, 2, 63, 64, 65, 66, 1000} {
		g := of(4, 5)
		for i := range n {
			g.Prods = append(g.Prods, prod(4, i%4, i/4%4, i/16%4, i/64%4, i/256))
		}
		want := api.OK
		if n == 0 || n > api.MaxProds {
			want = api.ErrArg
		}
		if n == 1000 {
			g.Prods = times(n, prod(4, 0))
		}
		checks(t, g, want)
		if want == api.OK && len(told(t, grams.Of, g, 4)) != n {
			t.Errorf("%d", n)
		}
	}
}

func TestHowLongBodiesAre(t *testing.T) {
	for _, n := range []int{0, 1, 2, 7, 8, 9, 10, 64, 65, 1 << 20} {
		want := api.OK
		switch {
		case n > api.MaxBody:
			want = api.ErrLong
		case n == 0:
			want = api.ErrEmpty
		}
		checks(t, of(1, 2, prod(1, times(n, 0)...)), want)
		checks(t, of(2, 3, prod(2, times(n, 0)...), prod(2, 1, 1)), want)
		checks(t, of(2, 3, prod(2, 1, 1), prod(2, 0, 1), prod(2, times(n, 0)...)), want)
	}
	// The last of eight symbols counts as all others do.
	g := of(2, 4, prod(2, 0, 0, 0, 0, 0, 0, 0, 3), prod(3, 1))
	checks(t, g, api.OK)
	follow(t, g, []int{0, 1}, []int{2}, []int{2}, []int{2})
	g.Prods[0].Body[7] = 4
	checks(t, g, api.ErrArg)
}
