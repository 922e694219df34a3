package derive_test

import (
	"math/big"
	"slices"
	"testing"

	"rootstock/api"
	"rootstock/derive"
	"rootstock/grams"
)

// asTold holds all that is told of a row against the chapter's words: all trees are laid, and all beginnings of sentences gone through.
func asTold(t *testing.T, g api.Grammar, row []int) int {
	t.Helper()
	for sym := range g.Symbols {
		all := treesOf(g, sym, row)
		counts(t, g, sym, row, len(all))
		if n := stepsTo(g, []int{sym}, row); n != len(all) {
			t.Fatalf("by the words %v, %d, %v: %d trees, but %d by steps", g, sym, row, len(all), n)
		}
		for _, x := range all {
			if e := derive.Fits(g, x); e != api.OK {
				t.Fatalf("Fits of %v, %v: %v", g, x, e)
			}
			yields(t, x, row...)
		}
	}
	n := viableOf(g, row)
	judged(t, g, row, n, len(treesOf(g, g.Start, row)) > 0)
	return n
}

// productions are all of some symbols, with bodies of one symbol and two.
func productions(terms, symbols int) []api.Prod {
	var l []api.Prod
	for head := terms; head < symbols; head++ {
		for a := range symbols {
			l = append(l, prod(head, a))
			for b := range symbols {
				l = append(l, prod(head, a, b))
			}
		}
	}
	return l
}

// allOf are all grammars of some symbols that may be, with bodies of one symbol and two, and so many productions at most.
func allOf(terms, symbols, most int) []api.Grammar {
	all := productions(terms, symbols)
	var l []api.Grammar
	var choose func(from int, prods []api.Prod)
	choose = func(from int, prods []api.Prod) {
		for start := terms; start < symbols; start++ {
			g := of(terms, symbols, prods...)
			g.Start = start
			if grams.Check(g) == api.OK {
				l = append(l, copied(g))
			}
		}
		for i := from; i < len(all) && len(prods) < most; i++ {
			choose(i+1, append(slices.Clone(prods), all[i]))
		}
	}
	choose(0, nil)
	return l
}

func TestAllTinyGrammars(t *testing.T) {
	for _, c := range []struct{ terms, symbols, most, long int }{{1, 2, 6, 7}, {2, 3, 4, 4}, {1, 3, 3, 5}, {2, 4, 2, 3}} {
		l := allOf(c.terms, c.symbols, c.most)
		if len(l) < 10 {
			t.Errorf("only %d of %v", len(l), c)
		}
		for _, g := range l {
			for _, row := range rowsUpTo(c.terms, c.long) {
				asTold(t, g, row)
			}
		}
	}
}

func TestTinyGrammars(t *testing.T) {
	d := dice(4)
	had := map[int]int{}
	for range 400 {
		g := d.tiny(t, 1+d.roll(3), 1+d.roll(4), 7, 4)
		for _, row := range rowsUpTo(g.Terms, 3) {
			had[min(asTold(t, g, row), 2)]++
		}
		for range 20 {
			asTold(t, g, d.row(4+d.roll(2), g.Terms))
		}
	}
	for n := range 3 {
		if had[n] < 700 {
			t.Errorf("only %d stop at %d", had[n], n)
		}
	}
}

// rowOf is a mixed row, often one that a symbol becomes, or a beginning of one, or one but for some terminal; of what is too long the beginning.
func (d *dice) rowOf(g api.Grammar, sym, most int) []int {
	row := leavesOf(d.grown(g, heights(g), sym, d.roll(7)))
	switch d.roll(5) {
	case 0:
		row = row[:d.roll(len(row)+1)]
	case 1:
		row[d.roll(len(row))] = d.roll(g.Terms)
	case 2:
		row = append(row, d.roll(g.Terms))
	}
	return row[:min(len(row), most)]
}

func TestCountOfMixedGrammars(t *testing.T) {
	d := dice(5)
	limit := big.NewInt(api.MaxCount)
	had := map[int]int{}
	for range 500 {
		g := d.large(t, 1+d.roll(30))
		for range 4 {
			sym := d.roll(g.Symbols)
			row := d.rowOf(g, sym, 24)
			n := manyOf(g, sym, row)
			if n.Cmp(limit) > 0 {
				isMany(t, g, sym, row)
				continue
			}
			had[min(int(n.Int64()), 2)]++
			counts(t, g, sym, row, int(n.Int64()))
		}
	}
	if had[0] < 100 || had[1] < 100 || had[2] < 100 {
		t.Errorf("%v", had)
	}
}

// thick is a mixed grammar of few symbols in which much becomes the same.
func (d *dice) thick(t *testing.T) api.Grammar {
	t.Helper()
	g := d.tiny(t, 1, 1+d.roll(4), 5, 3)
	for range 8 {
		g.Prods = append(g.Prods, prod(1+d.roll(g.Symbols-1), d.row(2+d.roll(3), g.Symbols)...))
		if grams.Check(g) != api.OK {
			g.Prods = g.Prods[:len(g.Prods)-1]
		}
	}
	return g
}

func TestCountOfGrammarsWithManyWays(t *testing.T) {
	d := dice(6)
	limit := big.NewInt(api.MaxCount)
	had := map[api.Errno]int{}
	for range 100 {
		g := d.thick(t)
		for sym := range g.Symbols {
			for _, row := range [][]int{times(1+d.roll(12), 0), times(5+d.roll(20), 0)} {
				n := manyOf(g, sym, row)
				if n.Cmp(limit) > 0 {
					isMany(t, g, sym, row)
					had[api.ErrMany]++
				} else {
					counts(t, g, sym, row, int(n.Int64()))
					had[api.OK]++
				}
			}
		}
	}
	if had[api.ErrMany] < 50 || had[api.OK] < 300 {
		t.Errorf("%v", had)
	}
}

func TestJudgeOfMixedGrammars(t *testing.T) {
	d := dice(7)
	sentences := 0
	for range 400 {
		g := d.large(t, 1+d.roll(12))
		for range 5 {
			row := d.rowOf(g, g.Start, 9)
			is := manyOf(g, g.Start, row).Sign() > 0
			if is {
				sentences++
			}
			judged(t, g, row, viableOf(g, row), is)
		}
	}
	if sentences < 200 {
		t.Errorf("only %d sentences", sentences)
	}
}
