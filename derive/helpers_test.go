package derive_test

import (
	"fmt"
	"slices"
	"testing"

	"rootstock/api"
	"rootstock/derive"
	"rootstock/grams"
)

// brief is a thing as text, no more of it than can be read.
func brief(x any) string {
	s := fmt.Sprint(x)
	return s[:min(len(s), 600)]
}

// prod is a production.
func prod(head int, body ...int) api.Prod { return api.Prod{Head: head, Body: body} }

// times is as many of one thing.
func times[T any](n int, x T) []T { return slices.Repeat([]T{x}, n) }

// of is a grammar whose Start is its first head.
func of(terms, symbols int, prods ...api.Prod) api.Grammar {
	return api.Grammar{Terms: terms, Symbols: symbols, Start: terms, Prods: prods}
}

// sums is the chapter's E: the terminals 0 (n) and 1 (+).
func sums() api.Grammar { return of(2, 3, prod(2, 2, 1, 2), prod(2, 0)) }

// leaf is a tree of a terminal alone.
func leaf(sym int) api.Tree { return api.Tree{Sym: sym, Prod: -1} }

// tree is one of a head.
func tree(sym, prod int, kids ...api.Tree) api.Tree {
	return api.Tree{Sym: sym, Prod: prod, Kids: kids}
}

// number and sum are trees of E.
func number() api.Tree { return tree(2, 1, leaf(0)) }

func sum(a, b api.Tree) api.Tree { return tree(2, 0, a, leaf(1), b) }

// copied is a grammar in memory of its own.
func copied(g api.Grammar) api.Grammar {
	g.Prods = slices.Clone(g.Prods)
	for i := range g.Prods {
		g.Prods[i].Body = slices.Clone(g.Prods[i].Body)
	}
	return g
}

// copiedTree is a tree in memory of its own.
func copiedTree(t api.Tree) api.Tree {
	t.Kids = slices.Clone(t.Kids)
	for i := range t.Kids {
		t.Kids[i] = copiedTree(t.Kids[i])
	}
	return t
}

// becomes holds what Derives tells, and that Count is one at least just if that is true; it answers Count, and ErrMany or OK.
func becomes(t *testing.T, g api.Grammar, sym int, row []int, want bool) (int, api.Errno) {
	t.Helper()
	if is, e := derive.Derives(g, sym, row); is != want || e != api.OK {
		t.Fatalf("Derives of %s, %d, %v: %v, %v, not %v", brief(g), sym, row, is, e, want)
	}
	n, e := derive.Count(g, sym, row)
	if e == api.ErrMany && want && n == 0 {
		return 0, e
	}
	if e != api.OK || n < 0 || n > api.MaxCount || n > 0 != want {
		t.Fatalf("Count of %s, %d, %v: %v, %v, where Derives is %v", brief(g), sym, row, n, e, want)
	}
	return n, e
}

// counts holds what Count and Derives tell of a row that has as many trees.
func counts(t *testing.T, g api.Grammar, sym int, row []int, want int) {
	t.Helper()
	if n, e := becomes(t, g, sym, row, want > 0); n != want || e != api.OK {
		t.Fatalf("Count of %s, %d, %v: %v, %v, not %v", brief(g), sym, row, n, e, want)
	}
}

// isMany holds that a row has more trees than are counted.
func isMany(t *testing.T, g api.Grammar, sym int, row []int) {
	t.Helper()
	if n, e := becomes(t, g, sym, row, true); e != api.ErrMany {
		t.Fatalf("Count of %s, %d, %v: %v, %v", brief(g), sym, row, n, e)
	}
}

// judged holds what Judge and Viable tell of a row: how many of its terminals are a beginning of a sentence, and whether all are one.
func judged(t *testing.T, g api.Grammar, row []int, viable int, sentence bool) {
	t.Helper()
	want := api.Verdict{At: viable}
	if sentence {
		want = api.Verdict{Ok: true}
	}
	if v, e := derive.Judge(g, row); v != want || e != api.OK {
		t.Fatalf("Judge of %s, %v: %v, %v, not %v", brief(g), row, v, e, want)
	}
	if is, e := derive.Viable(g, row); is != (viable == len(row)) || e != api.OK {
		t.Fatalf("Viable of %s, %v: %v, %v, not %v", brief(g), row, is, e, viable == len(row))
	}
	becomes(t, g, g.Start, row, sentence)
}

// fits holds what Fits tells of a tree; of a grammar's it holds that its leaves are what its root becomes, too.
func fits(t *testing.T, g api.Grammar, x api.Tree, want api.Errno) {
	t.Helper()
	if e := derive.Fits(g, x); e != want {
		t.Fatalf("Fits of %s, %s: %v, not %v", brief(g), brief(x), e, want)
	}
	if row := derive.Yield(x); want == api.OK && len(row) <= api.MaxRow {
		becomes(t, g, x.Sym, row, true)
	}
}

// yields holds what Yield tells.
func yields(t *testing.T, x api.Tree, want ...int) {
	t.Helper()
	if l := derive.Yield(x); !slices.Equal(l, want) {
		t.Fatalf("Yield of %s: %s, not %s", brief(x), brief(l), brief(want))
	}
}

// dice are numbers, the same ones in each run.
type dice uint32

func (d *dice) roll(n int) int {
	*d = *d*1664525 + 1013904223
	return int(*d>>8) % n
}

// row is a mixed one of the numbers below one.
func (d *dice) row(n, below int) []int {
	l := make([]int, n)
	for i := range l {
		l[i] = d.roll(below)
	}
	return l
}

// mix puts a list into another order.
func mix[T any](d *dice, l []T) {
	for i := range l {
		j := i + d.roll(len(l)-i)
		l[i], l[j] = l[j], l[i]
	}
}

// tiny is a mixed grammar of few symbols that may be.
func (d *dice) tiny(t *testing.T, terms, heads, prods, body int) api.Grammar {
	t.Helper()
	for range 100000 {
		g := of(terms, terms+heads)
		g.Start += d.roll(heads)
		for range 1 + d.roll(prods) {
			g.Prods = append(g.Prods, prod(terms+d.roll(heads), d.row(1+d.roll(body), terms+heads)...))
		}
		if grams.Check(g) == api.OK {
			return g
		}
	}
	t.Fatal("none of 100000 may be")
	return api.Grammar{}
}

// large is a mixed grammar of up to as many symbols that may be: each head but Start stands in a body of one ahead of it.
func (d *dice) large(t *testing.T, most int) api.Grammar {
	t.Helper()
	for range 10000 {
		terms, heads := 1+d.roll(min(most, 5)), 1+d.roll(most)
		heads = min(heads, api.MaxSymbols-terms)
		g := of(terms, terms+heads)
		for i := range heads {
			var body []int
			for j := 2*i + 1; j < min(heads, 2*i+3); j++ {
				body = append(body, terms+j)
			}
			body = append(body, d.row(d.roll(2), terms)...)
			if len(body) == 0 {
				body = []int{d.roll(terms)}
			}
			mix(d, body)
			g.Prods = append(g.Prods, prod(terms+i, body...))
		}
		for range min(d.roll(2*heads+2), api.MaxProds-heads) {
			g.Prods = append(g.Prods, prod(terms+d.roll(heads), d.row(1+d.roll(1+d.roll(api.MaxBody)), terms+heads)...))
		}
		mix(d, g.Prods)
		if grams.Check(g) == api.OK {
			return g
		}
	}
	t.Fatal("none of 10000 may be")
	return api.Grammar{}
}

// heights are each symbol's: how deep its least deep tree of terminals goes.
func heights(g api.Grammar) []int {
	l := times(g.Symbols, 1<<20)
	for s := range g.Terms {
		l[s] = 0
	}
	for range g.Prods {
		for _, p := range g.Prods {
			deepest := 0
			for _, s := range p.Body {
				deepest = max(deepest, l[s])
			}
			l[p.Head] = min(l[p.Head], 1+deepest)
		}
	}
	return l
}

// grown is a mixed tree of a grammar, which does not go on by choice below some depth.
func (d *dice) grown(g api.Grammar, high []int, sym, depth int) api.Tree {
	if sym < g.Terms {
		return leaf(sym)
	}
	var may []int
	for n, p := range g.Prods {
		least := !slices.ContainsFunc(p.Body, func(s int) bool { return high[s] >= high[sym] })
		if p.Head == sym && (depth > 0 || least) {
			may = append(may, n)
		}
	}
	n := may[d.roll(len(may))]
	var kids []api.Tree
	for _, s := range g.Prods[n].Body {
		kids = append(kids, d.grown(g, high, s, depth-1))
	}
	return tree(sym, n, kids...)
}
