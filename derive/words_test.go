package derive_test

import (
	"fmt"
	"math/big"
	"slices"

	"rootstock/api"
)

// treesOf are all trees of a grammar with a symbol at the root and a row as their leaves, by the chapter's words.
func treesOf(g api.Grammar, sym int, row []int) []api.Tree {
	if sym < g.Terms {
		if len(row) == 1 && row[0] == sym {
			return []api.Tree{leaf(sym)}
		}
		return nil
	}
	var l []api.Tree
	for n, p := range g.Prods {
		if p.Head == sym {
			for _, kids := range kidsOf(g, p.Body, row) {
				l = append(l, tree(sym, n, kids...))
			}
		}
	}
	return l
}

// kidsOf are all lists of trees, one for each symbol of a body, whose leaves are a row that is parted into pieces that are not empty.
func kidsOf(g api.Grammar, body, row []int) [][]api.Tree {
	var l [][]api.Tree
	if len(body) == 1 {
		if len(row) > 0 {
			for _, k := range treesOf(g, body[0], row) {
				l = append(l, []api.Tree{k})
			}
		}
		return l
	}
	for cut := 1; cut <= len(row)-len(body)+1; cut++ {
		for _, k := range treesOf(g, body[0], row[:cut]) {
			for _, rest := range kidsOf(g, body[1:], row[cut:]) {
				l = append(l, append([]api.Tree{k}, rest...))
			}
		}
	}
	return l
}

// stepsTo is in how many ways a list of symbols becomes a row, if always the first head of it gives place to a body: of a symbol as many as there are trees.
func stepsTo(g api.Grammar, l, row []int) int {
	if len(l) > len(row) {
		return 0
	}
	if len(l) == 0 {
		if len(row) == 0 {
			return 1
		}
		return 0
	}
	if l[0] < g.Terms {
		if l[0] != row[0] {
			return 0
		}
		return stepsTo(g, l[1:], row[1:])
	}
	n := 0
	for _, p := range g.Prods {
		if p.Head == l[0] {
			n += stepsTo(g, slices.Concat(p.Body, l[1:]), row)
		}
	}
	return n
}

// behindOf is a list of symbols that may stand behind a row in what Start becomes, if there is one; always the first head of a list gives place to a body. As each symbol becomes one terminal at least, those of a list that come behind as many as the row has left make no difference.
func behindOf(g api.Grammar, row []int) ([]int, bool) {
	type left struct{ l, row []int }
	seen := map[string]int{}
	for open := []left{{[]int{g.Start}, row}}; len(open) > 0; {
		x := open[0]
		open = open[1:]
		if len(x.row) == 0 {
			return x.l, true
		}
		key := fmt.Sprint(x.l[:min(len(x.l), len(x.row))], len(x.row))
		if len(x.l) == 0 || seen[key] > 0 {
			continue
		}
		seen[key] = 1
		if x.l[0] < g.Terms {
			if x.l[0] == x.row[0] {
				open = append(open, left{x.l[1:], x.row[1:]})
			}
			continue
		}
		for _, p := range g.Prods {
			if p.Head == x.l[0] {
				open = append(open, left{slices.Concat(p.Body, x.l[1:]), x.row})
			}
		}
	}
	return nil, false
}

// viableOf is how many of a row's terminals are a beginning of a sentence.
func viableOf(g api.Grammar, row []int) int {
	for n := range row {
		if _, is := behindOf(g, row[:n+1]); !is {
			return n
		}
	}
	return len(row)
}

// many counts trees without a bound: how many ways a list of symbols becomes the row's terminals between two places.
type many struct {
	g    api.Grammar
	row  []int
	told map[string]*big.Int
}

func manyOf(g api.Grammar, sym int, row []int) *big.Int {
	m := many{g: g, row: row, told: map[string]*big.Int{}}
	return m.of([]int{sym}, 0, len(row))
}

func (m many) of(l []int, from, to int) *big.Int {
	if len(l) == 1 && l[0] < m.g.Terms {
		if to-from == 1 && m.row[from] == l[0] {
			return big.NewInt(1)
		}
		return new(big.Int)
	}
	key := fmt.Sprint(l, from, to)
	if n := m.told[key]; n != nil {
		return n
	}
	n := new(big.Int)
	if len(l) == 1 {
		for _, p := range m.g.Prods {
			if p.Head == l[0] && len(p.Body) <= to-from {
				n.Add(n, m.of(p.Body, from, to))
			}
		}
	} else {
		for mid := from + 1; mid <= to-len(l)+1; mid++ {
			if first := m.of(l[:1], from, mid); first.Sign() > 0 {
				n.Add(n, new(big.Int).Mul(first, m.of(l[1:], mid, to)))
			}
		}
	}
	m.told[key] = n
	return n
}

// fitsOf is what Fits is to tell of a tree, for a grammar that may be: nodes are looked at in the order in which their beginnings would be written.
func fitsOf(g api.Grammar, t api.Tree) api.Errno {
	for open := []api.Tree{t}; len(open) > 0; {
		x := open[0]
		open = append(slices.Clone(x.Kids), open[1:]...)
		if x.Sym < 0 || x.Sym >= g.Symbols {
			return api.ErrArg
		}
		if x.Sym < g.Terms {
			if x.Prod != -1 || len(x.Kids) != 0 {
				return api.ErrBroken
			}
			continue
		}
		if x.Prod < 0 || x.Prod >= len(g.Prods) {
			return api.ErrArg
		}
		var syms []int
		for _, k := range x.Kids {
			syms = append(syms, k.Sym)
		}
		if p := g.Prods[x.Prod]; p.Head != x.Sym || !slices.Equal(p.Body, syms) {
			return api.ErrBroken
		}
	}
	return api.OK
}

// leavesOf is what Yield is to tell.
func leavesOf(t api.Tree) []int {
	var l []int
	for open := []api.Tree{t}; len(open) > 0; {
		x := open[len(open)-1]
		open = open[:len(open)-1]
		if len(x.Kids) == 0 {
			l = append(l, x.Sym)
		}
		for i := len(x.Kids) - 1; i >= 0; i-- {
			open = append(open, x.Kids[i])
		}
	}
	return l
}

// rowsUpTo are all rows of at most so many terminals.
func rowsUpTo(terms, most int) [][]int {
	l := [][]int{{}}
	for i := 0; i < len(l) && len(l[i]) < most; i++ {
		for s := range terms {
			l = append(l, append(slices.Clone(l[i]), s))
		}
	}
	return l
}
