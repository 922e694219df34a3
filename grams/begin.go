package grams

import "rootstock/api"

// begins are each symbol's terminals with which the rows begin that it becomes. As no body is empty, and each head is good for something, they are those of the bodies' first symbols.
func begins(g api.Grammar) table {
	var t table
	for s := range g.Terms {
		t[s] = one(s)
	}
	var ways []way
	for _, p := range g.Prods {
		ways = append(ways, way{from: p.Body[0], to: p.Head})
	}
	return led(t, ways)
}

// follows are each symbol's terminals that stand right behind it, and the number Terms, if it stands at the end. As each head is come to, each body stands in a row.
func follows(g api.Grammar) table {
	first := begins(g)
	var t table
	t[g.Start] = one(g.Terms)
	var ways []way
	for _, p := range g.Prods {
		last := len(p.Body) - 1
		for i, s := range p.Body[:last] {
			t[s] |= first[p.Body[i+1]]
		}
		ways = append(ways, way{from: p.Head, to: p.Body[last]})
	}
	return led(t, ways)
}
