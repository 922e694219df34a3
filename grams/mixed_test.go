package grams_test

import (
	"slices"
	"testing"

	"rootstock/api"
	"rootstock/grams"
)

// asTold holds all that is told of a grammar against a model; it answers what Check tells.
func asTold(t *testing.T, g api.Grammar, m model) api.Errno {
	t.Helper()
	want := checked(g, m)
	checks(t, g, want)
	if want != api.OK {
		return want
	}
	for sym := range g.Symbols {
		if l, w := told(t, grams.First, g, sym), m.first(sym); !slices.Equal(l, w) {
			t.Fatalf("First of %v, %d: %v, not %v", g, sym, l, w)
		}
		if l, w := told(t, grams.Follow, g, sym), m.follow(sym); !slices.Equal(l, w) {
			t.Fatalf("Follow of %v, %d: %v, not %v", g, sym, l, w)
		}
		if sym < g.Terms {
			if l, e := grams.Of(g, sym); e != api.ErrArg || l != nil {
				t.Fatalf("Of of %v, %d: %v, %v", g, sym, l, e)
			}
			continue
		}
		var w []int
		for i, p := range g.Prods {
			if p.Head == sym {
				w = append(w, i)
			}
		}
		if l := told(t, grams.Of, g, sym); !slices.Equal(l, w) {
			t.Fatalf("Of of %v, %d: %v, not %v", g, sym, l, w)
		}
	}
	return api.OK
}

// enough holds that there were enough of each sort.
func enough(t *testing.T, had map[api.Errno]int, least int, sorts ...api.Errno) {
	t.Helper()
	for _, e := range sorts {
		if had[e] < least {
			t.Errorf("only %d of %v: %v", had[e], e, had)
		}
	}
}

// productions are all of some symbols, with bodies of one symbol and two.
func productions(terms, symbols int) []api.Prod {
	var l []api.Prod
	for head := terms; head < symbols; head++ {
		for a := range symbols {
			l = append(l, prod(head, a))
			for b := range symbols {
				l = append(l, prod(head, a, b))
			}
		}
	}
	return l
}

func TestAllTinyGrammars(t *testing.T) {
	had := map[api.Errno]int{}
	all := func(terms, symbols, most int) {
		l := productions(terms, symbols)
		var choose func(from int, prods []api.Prod)
		choose = func(from int, prods []api.Prod) {
			for start := terms; start < symbols && len(prods) > 0; start++ {
				g := of(terms, symbols, prods...)
				g.Start = start
				had[asTold(t, g, rowsOf(g, 7))]++
				asTold(t, g, byPairs{g})
			}
			for i := from; i < len(l) && len(prods) < most; i++ {
				choose(i+1, append(slices.Clone(prods), l[i]))
			}
		}
		choose(0, nil)
	}
	all(1, 2, 6)
	all(2, 3, 4)
	all(1, 3, 3)
	all(2, 4, 2)
	enough(t, had, 200, api.OK, api.ErrUnused, api.ErrCycle)
}

func TestTinyGrammars(t *testing.T) {
	d := dice(1)
	had := map[api.Errno]int{}
	for range 2500 {
		g := d.tiny(1+d.roll(3), 1+d.roll(3), 5, 2)
		had[asTold(t, g, rowsOf(g, 7))]++
		asTold(t, g, byPairs{g})
	}
	enough(t, had, 100, api.OK, api.ErrUnused, api.ErrCycle, api.ErrArg)
}

func TestMixedGrammars(t *testing.T) {
	d := dice(2)
	had := map[api.Errno]int{}
	for range 4000 {
		g := d.tiny(1+d.roll(4), 1+d.roll(5), 9, 4)
		had[asTold(t, g, byPairs{g})]++
		g = d.likely(6)
		had[asTold(t, g, byPairs{g})]++
	}
	for range 300 {
		g := d.usable(t, api.MaxSymbols)
		had[asTold(t, g, byPairs{g})]++
	}
	enough(t, had, 200, api.OK, api.ErrUnused, api.ErrCycle, api.ErrArg)
}
