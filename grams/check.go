package grams

import (
	"slices"

	"rootstock/api"
)

// numbersMayBe tells whether a grammar's numbers are of symbols and heads, and as many as there may be.
func numbersMayBe(g api.Grammar) bool {
	// Only below these bounds has a symbol a place in a set.
	if !isFrom(g.Terms, 1, api.MaxTerms+1) || !isFrom(g.Symbols, g.Terms+1, api.MaxSymbols+1) || !isFrom(len(g.Prods), 1, api.MaxProds+1) {
		return false
	}
	for _, p := range g.Prods {
		if !isFrom(p.Head, g.Terms, g.Symbols) || slices.ContainsFunc(p.Body, func(s int) bool { return !isFrom(s, 0, g.Symbols) }) {
			return false
		}
	}
	return isFrom(g.Start, g.Terms, g.Symbols)
}

// isFrom tells whether a number is one from another one on, up to a third, without it.
func isFrom(n, from, to int) bool {
	return from <= n && n < to
}

// hasTwins tells whether two productions make the same of one head.
func hasTwins(l []api.Prod) bool {
	for i, p := range l {
		if slices.ContainsFunc(l[:i], func(q api.Prod) bool { return p.Head == q.Head && slices.Equal(p.Body, q.Body) }) {
			return true
		}
	}
	return false
}

func isLong(p api.Prod) bool {
	return len(p.Body) > api.MaxBody
}

func isEmpty(p api.Prod) bool {
	return len(p.Body) == 0
}

// comeTo are a grammar's terminals, and the symbols that stand in a row that Start becomes.
func comeTo(g api.Grammar) set {
	return settled(below(g.Terms)|one(g.Start), func(s set) set {
		for _, p := range g.Prods {
			if s.has(p.Head) {
				s |= of(p.Body)
			}
		}
		return s
	})
}

// good are the symbols that become a row of terminals alone.
func good(g api.Grammar) set {
	return settled(below(g.Terms), func(s set) set {
		for _, p := range g.Prods {
			if of(p.Body)&^s == 0 {
				s |= one(p.Head)
			}
		}
		return s
	})
}

// goesRound tells whether a head becomes the row of itself alone. As no body is empty, only those of one symbol lead there.
func goesRound(g api.Grammar) bool {
	var t table
	var ways []way
	for _, p := range g.Prods {
		if len(p.Body) == 1 {
			t[p.Head] |= one(p.Body[0])
			ways = append(ways, way{from: p.Body[0], to: p.Head})
		}
	}
	for s, alone := range led(t, ways) {
		if alone.has(s) {
			return true
		}
	}
	return false
}
