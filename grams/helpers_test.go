package grams_test

import (
	"slices"
	"testing"

	"rootstock/api"
	"rootstock/grams"
)

// prod is a production.
func prod(head int, body ...int) api.Prod { return api.Prod{Head: head, Body: body} }

// right is a production with the other Right.
func right(p api.Prod) api.Prod {
	p.Right = !p.Right
	return p
}

// times is as many of one thing.
func times[T any](n int, x T) []T { return slices.Repeat([]T{x}, n) }

// of is a grammar whose Start is its first head.
func of(terms, symbols int, prods ...api.Prod) api.Grammar {
	return api.Grammar{Terms: terms, Symbols: symbols, Start: terms, Prods: prods}
}

// example is the chapter's G, with more productions.
func example(more ...api.Prod) api.Grammar {
	return of(4, 6, append([]api.Prod{prod(4, 4, 0, 5), prod(4, 5), prod(5, 1), prod(5, 2, 4, 3)}, more...)...)
}

// copied is a grammar in memory of its own.
func copied(g api.Grammar) api.Grammar {
	g.Prods = slices.Clone(g.Prods)
	for i := range g.Prods {
		g.Prods[i].Body = slices.Clone(g.Prods[i].Body)
	}
	return g
}

// checks holds what Check tells of a grammar, and that all else that is asked of one that may not be tells just that.
func checks(t *testing.T, g api.Grammar, want api.Errno) {
	t.Helper()
	if e := grams.Check(g); e != want {
		t.Fatalf("%.300v: %v, not %v", g, e, want)
	}
	if want == api.OK {
		return
	}
	for _, sym := range []int{-1, 0, g.Start, g.Terms, g.Symbols, 1 << 40} {
		for i, call := range calls() {
			if l, e := call(g, sym); e != want || l != nil {
				t.Fatalf("call %d, %.300v, %d: %v, %v, not %v", i, g, sym, l, e, want)
			}
		}
	}
}

// calls are those that are asked for a symbol.
func calls() []func(api.Grammar, int) ([]int, api.Errno) {
	return []func(api.Grammar, int) ([]int, api.Errno){grams.Of, grams.First, grams.Follow}
}

// told is what a call answers, which must be no error.
func told(t *testing.T, call func(api.Grammar, int) ([]int, api.Errno), g api.Grammar, sym int) []int {
	t.Helper()
	l, e := call(g, sym)
	if e != api.OK {
		t.Fatalf("%v, %d: %v", g, sym, e)
	}
	return l
}

// first holds what First tells of each symbol from 0 on.
func first(t *testing.T, g api.Grammar, want ...[]int) {
	t.Helper()
	each(t, "First", grams.First, g, want)
}

// follow holds what Follow tells of each symbol from 0 on.
func follow(t *testing.T, g api.Grammar, want ...[]int) {
	t.Helper()
	each(t, "Follow", grams.Follow, g, want)
}

func each(t *testing.T, name string, call func(api.Grammar, int) ([]int, api.Errno), g api.Grammar, want [][]int) {
	t.Helper()
	if len(want) != g.Symbols {
		t.Fatalf("%v: %d symbols, not %d", g, len(want), g.Symbols)
	}
	for sym, w := range want {
		if l := told(t, call, g, sym); !slices.Equal(l, w) {
			t.Errorf("%s of %.300v, %d: %v, not %v", name, g, sym, l, w)
		}
	}
}

// dice are numbers, the same ones in each run.
type dice uint32

func (d *dice) roll(n int) int {
	*d = *d*1664525 + 1013904223
	return int(*d>>8) % n
}

// mix puts a list into another order.
func mix[T any](d *dice, l []T) {
	for i := range l {
		j := i + d.roll(len(l)-i)
		l[i], l[j] = l[j], l[i]
	}
}

// row is a mixed one of the numbers below one.
func (d *dice) row(n, below int) []int {
	l := make([]int, n)
	for i := range l {
		l[i] = d.roll(below)
	}
	return l
}

// tiny is a mixed grammar of few symbols, some productions, and short bodies.
func (d *dice) tiny(terms, heads, prods, body int) api.Grammar {
	g := of(terms, terms+heads)
	g.Start += d.roll(heads)
	for range 1 + d.roll(prods) {
		g.Prods = append(g.Prods, prod(terms+d.roll(heads), d.row(1+d.roll(body), terms+heads)...))
	}
	return g
}

// likely is a mixed grammar that often may be: each head but Start stands in a body of one ahead of it.
func (d *dice) likely(most int) api.Grammar {
	terms, heads := 1+d.roll(min(most, api.MaxTerms)), 1+d.roll(most)
	heads = min(heads, api.MaxSymbols-terms)
	g := of(terms, terms+heads)
	names := d.names(terms, heads)
	g.Start = names[0]
	for i, head := range names {
		var body []int
		for j := i + 1; j < min(heads, 2*i+3); j++ {
			if j > 2*i {
				body = append(body, names[j])
			}
		}
		body = append(body, d.row(d.roll(3), terms)...)
		if len(body) == 0 {
			body = []int{d.roll(terms)}
		}
		mix(d, body)
		g.Prods = append(g.Prods, prod(head, body...))
	}
	for range d.roll(api.MaxProds - heads + 1) {
		g.Prods = append(g.Prods, prod(terms+d.roll(heads), d.row(1+d.roll(api.MaxBody), terms+heads)...))
		if d.roll(9) == 0 {
			break
		}
	}
	mix(d, g.Prods)
	return g
}

// names are as many numbers from one on, in a mixed order.
func (d *dice) names(from, n int) []int {
	l := make([]int, n)
	for i := range l {
		l[i] = from + i
	}
	mix(d, l)
	return l
}

// usable is a mixed grammar that may be.
func (d *dice) usable(t *testing.T, most int) api.Grammar {
	t.Helper()
	for range 1000 {
		if g := d.likely(most); grams.Check(g) == api.OK {
			return g
		}
	}
	t.Fatal("none of 1000 may be")
	return api.Grammar{}
}
