package grams_test

import (
	"math"
	"testing"

	"rootstock/api"
	"rootstock/grams"
)

// fault makes a grammar one that may not be.
type fault func(*api.Grammar)

// adds is a fault of some productions more.
func adds(of func(g api.Grammar) []api.Prod) fault {
	return func(g *api.Grammar) { g.Prods = append(g.Prods[:len(g.Prods):len(g.Prods)], of(*g)...) }
}

// numbers are those that are never a symbol's.
func numbers() []int {
	return []int{-1, -2, -64, math.MinInt, math.MinInt32, 64, 65, 1 << 20, math.MaxInt32, math.MaxInt, 1 << 32, 1<<32 + 4}
}

// wrongNumbers are the faults of numbers.
func wrongNumbers() []fault {
	var l []fault
	for _, n := range numbers() {
		l = append(l,
			func(g *api.Grammar) { g.Terms = n },
			func(g *api.Grammar) { g.Start = n },
			adds(func(g api.Grammar) []api.Prod { return []api.Prod{prod(n, 0)} }),
			adds(func(g api.Grammar) []api.Prod { return []api.Prod{prod(g.Start, n)} }),
			adds(func(g api.Grammar) []api.Prod { return []api.Prod{prod(g.Start, 0, 0, n)} }),
			adds(func(g api.Grammar) []api.Prod { return []api.Prod{prod(g.Start, n, 0, 0)} }),
			adds(func(g api.Grammar) []api.Prod { return []api.Prod{prod(g.Start, append(times(20, 0), n)...)} }),
		)
		if n != 64 {
			l = append(l, func(g *api.Grammar) { g.Symbols = n })
		}
	}
	return append(l,
		func(g *api.Grammar) { g.Terms = 0 },
		func(g *api.Grammar) { g.Terms = 33 },
		func(g *api.Grammar) { g.Terms = g.Symbols },
		func(g *api.Grammar) { g.Symbols = g.Terms },
		func(g *api.Grammar) { g.Symbols = g.Terms - 1 },
		func(g *api.Grammar) { g.Symbols = 0 },
		func(g *api.Grammar) { g.Start = 0 },
		func(g *api.Grammar) { g.Start = g.Terms - 1 },
		func(g *api.Grammar) { g.Start = g.Symbols },
	)
}

// wrongProds are the faults of productions that Check tells first.
func wrongProds() []fault {
	return []fault{
		func(g *api.Grammar) { g.Prods = nil },
		func(g *api.Grammar) { g.Prods = []api.Prod{} },
		func(g *api.Grammar) { g.Prods = times(65, g.Prods[0]) },
		func(g *api.Grammar) { *g = api.Grammar{} },
		adds(func(g api.Grammar) []api.Prod {
			var l []api.Prod
			for n := range 65 {
				l = append(l, prod(g.Start, n%4, n/4%4, n/16%4, n/64, 1))
			}
			return l
		}),
		adds(func(g api.Grammar) []api.Prod { return []api.Prod{prod(0, 0)} }),
		adds(func(g api.Grammar) []api.Prod { return []api.Prod{prod(g.Terms-1, 0)} }),
		adds(func(g api.Grammar) []api.Prod { return []api.Prod{prod(g.Symbols, 0)} }),
		adds(func(g api.Grammar) []api.Prod { return []api.Prod{prod(g.Start, 0, g.Symbols)} }),
		adds(func(g api.Grammar) []api.Prod { return []api.Prod{g.Prods[0]} }),
		adds(func(g api.Grammar) []api.Prod { return []api.Prod{right(g.Prods[len(g.Prods)-1])} }),
		adds(func(g api.Grammar) []api.Prod { return times(2, prod(g.Start)) }),
		adds(func(g api.Grammar) []api.Prod { return times(2, prod(g.Start, times(9, 0)...)) }),
	}
}

// faults are those of each error, in the order in which Check tells them.
func faults() []struct {
	e api.Errno
	l []fault
} {
	return []struct {
		e api.Errno
		l []fault
	}{
		{api.ErrArg, append(wrongNumbers(), wrongProds()...)},
		{api.ErrLong, []fault{
			adds(func(g api.Grammar) []api.Prod { return []api.Prod{prod(g.Start, times(9, 1)...)} }),
			adds(func(g api.Grammar) []api.Prod { return []api.Prod{prod(g.Start, times(10, g.Start)...)} }),
			adds(func(g api.Grammar) []api.Prod { return []api.Prod{prod(g.Start, times(5000, 2)...)} }),
		}},
		{api.ErrEmpty, []fault{
			adds(func(g api.Grammar) []api.Prod { return []api.Prod{{Head: g.Start}} }),
			adds(func(g api.Grammar) []api.Prod { return []api.Prod{{Head: g.Symbols - 1, Body: []int{}, Right: true}} }),
		}},
		{api.ErrUnused, []fault{
			func(g *api.Grammar) { g.Symbols++ },
			func(g *api.Grammar) {
				g.Symbols++
				adds(func(g api.Grammar) []api.Prod { return []api.Prod{prod(g.Symbols-1, 0)} })(g)
			},
			func(g *api.Grammar) {
				g.Symbols++
				adds(func(g api.Grammar) []api.Prod { return []api.Prod{prod(g.Start, 3, g.Symbols-1)} })(g)
			},
			func(g *api.Grammar) {
				g.Symbols++
				adds(func(g api.Grammar) []api.Prod {
					return []api.Prod{prod(g.Start, 2, g.Symbols-1), prod(g.Symbols-1, g.Symbols-1, 0)}
				})(g)
			},
		}},
		{api.ErrCycle, []fault{
			adds(func(g api.Grammar) []api.Prod { return []api.Prod{prod(g.Start, g.Start)} }),
			adds(func(g api.Grammar) []api.Prod { return []api.Prod{prod(5, 5)} }),
			adds(func(g api.Grammar) []api.Prod { return []api.Prod{prod(5, 4)} }),
		}},
	}
}

func TestEachFaultAloneAndWithAllThatAreNamedBehindIt(t *testing.T) {
	all := faults()
	for i, kind := range all {
		for _, wrong := range kind.l {
			g := example()
			wrong(&g)
			checks(t, g, kind.e)
			for _, later := range all[i+1:] {
				for _, other := range later.l {
					// The one that is told is made last, so that the other one can't mend it.
					g := example()
					other(&g)
					wrong(&g)
					checks(t, g, kind.e)
				}
			}
		}
	}
}

func TestManyFaultsAtOnce(t *testing.T) {
	d := dice(9)
	all := faults()
	for range 5000 {
		g, want := example(), api.OK
		for i := len(all) - 1; i >= 0; i-- {
			if l := all[i].l; d.roll(2) == 0 {
				l[d.roll(len(l))](&g)
				want = all[i].e
			}
		}
		checks(t, g, want)
	}
}

func TestFaultsOfOneErrorTogether(t *testing.T) {
	d := dice(10)
	numbers := wrongNumbers()
	for range 3000 {
		g := example()
		for range 1 + d.roll(4) {
			numbers[d.roll(len(numbers))](&g)
		}
		// One may make the other good, but none of them panics, and each answer is one of Check's.
		e := grams.Check(g)
		for _, call := range calls() {
			if l, f := call(g, g.Start); e != api.OK && (f != e || l != nil) {
				t.Fatalf("%v: %v, %v, not %v", g, l, f, e)
			}
		}
	}
}

func TestGrammarOfNothing(t *testing.T) {
	checks(t, api.Grammar{}, api.ErrArg)
	checks(t, api.Grammar{Terms: 1}, api.ErrArg)
	checks(t, api.Grammar{Terms: 1, Symbols: 2}, api.ErrArg)
	checks(t, api.Grammar{Terms: 1, Symbols: 2, Start: 1}, api.ErrArg)
	checks(t, api.Grammar{Terms: 1, Symbols: 2, Start: 1, Prods: []api.Prod{{}}}, api.ErrArg)
	checks(t, api.Grammar{Terms: 1, Symbols: 2, Start: 1, Prods: []api.Prod{{Head: 1}}}, api.ErrEmpty)
	checks(t, api.Grammar{Prods: []api.Prod{{}}}, api.ErrArg)
}

func TestSymbolsThatAreNone(t *testing.T) {
	for _, g := range []api.Grammar{example(), of(1, 2, prod(1, 0)), chain(), of(32, 33, prod(32, 31))} {
		for _, sym := range append(numbers(), g.Symbols, g.Symbols+1) {
			for i, call := range calls() {
				if l, e := call(g, sym); e != api.ErrArg || l != nil {
					t.Errorf("call %d of %v, %d: %v, %v", i, g, sym, l, e)
				}
			}
		}
		for sym := range g.Terms {
			if l, e := grams.Of(g, sym); e != api.ErrArg || l != nil {
				t.Errorf("%v, %d: %v, %v", g, sym, l, e)
			}
		}
	}
}

func TestHugeLists(t *testing.T) {
	// A list that is far too long is told as such, however much there is of it.
	long := times(1<<20, 1)
	var l []api.Prod
	for n := range api.MaxProds {
		l = append(l, prod(4, long[n:]...))
	}
	checks(t, of(4, 5, l...), api.ErrLong)
	checks(t, of(4, 5, times(1<<20, prod(4, long...))...), api.ErrArg)
	checks(t, of(4, 5, prod(4, append(long, 5)...)), api.ErrArg)
}
