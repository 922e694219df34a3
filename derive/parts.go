package derive

import (
	"cmp"
	"slices"

	"rootstock/api"
)

// A thing is a symbol, or the end of a body: two symbols of it at least, and not all. A symbol's number is its own; those of ends come behind the symbols'.

// pair says that a thing becomes what two others become, one behind the other.
type pair struct {
	thing, first, rest int
}

// single says that a head becomes what another symbol alone becomes.
type single struct {
	head, sym int
}

// parts are a grammar's productions as steps with one place at most at which a row is parted, so that a long body needs no more ways to be tried than a short one.
type parts struct {
	terms, things int
	pairs         []pair
	singles       []single
}

func partsOf(g api.Grammar) parts {
	p := parts{terms: g.Terms, things: g.Symbols}
	for _, q := range g.Prods {
		if len(q.Body) == 1 {
			p.singles = append(p.singles, single{head: q.Head, sym: q.Body[0]})
		} else {
			p.addPairs(q)
		}
	}
	fromBelow(p.singles)
	return p
}

// addPairs adds a production whose body has two symbols at least.
func (p *parts) addPairs(q api.Prod) {
	thing, body := q.Head, q.Body
	for len(body) > 2 {
		p.pairs = append(p.pairs, pair{thing: thing, first: body[0], rest: p.things})
		thing, body = p.things, body[1:]
		p.things++
	}
	p.pairs = append(p.pairs, pair{thing: thing, first: body[0], rest: body[1]})
}

// fromBelow sorts singles so that all that make a symbol stand ahead of those that need it. There is such an order, as no head goes round.
func fromBelow(l []single) {
	var height [api.MaxSymbols]int
	for range l {
		for _, s := range l {
			height[s.head] = max(height[s.head], height[s.sym]+1)
		}
	}
	slices.SortFunc(l, func(a, b single) int { return cmp.Compare(height[a.head], height[b.head]) })
}
