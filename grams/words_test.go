package grams_test

import (
	"slices"

	"rootstock/api"
)

// steps are the rows that a row becomes in one step.
func steps(g api.Grammar, row []int) [][]int {
	var l [][]int
	for i, s := range row {
		for _, p := range g.Prods {
			if p.Head == s {
				l = append(l, slices.Concat(row[:i], p.Body, row[i+1:]))
			}
		}
	}
	return l
}

// rows are those of at most so many symbols that a symbol becomes by one step or more.
func rows(g api.Grammar, sym, most int) [][]int {
	seen := map[[8]int]int{}
	var l [][]int
	come := func(row []int) {
		var key [8]int
		for i, s := range row {
			if i < most {
				key[i] = s + 1
			}
		}
		if _, had := seen[key]; len(row) <= most && !had {
			seen[key] = 1
			l = append(l, row)
		}
	}
	for _, row := range steps(g, []int{sym}) {
		come(row)
	}
	for i := 0; i < len(l); i++ {
		for _, row := range steps(g, l[i]) {
			come(row)
		}
	}
	return l
}

// model tells of a grammar what the chapter's words say, by the rows or by shorter ways.
type model interface {
	comeTo(sym int) bool
	good(sym int) bool
	round(sym int) bool
	first(sym int) []int
	follow(sym int) []int
}

// byRows tells all by rows of at most so many symbols: in those of a tiny grammar all is to be seen that is in any.
type byRows struct {
	g   api.Grammar
	all [][][]int
}

func rowsOf(g api.Grammar, most int) byRows {
	m := byRows{g: g}
	for sym := range g.Symbols {
		m.all = append(m.all, rows(g, sym, most))
	}
	return m
}

// sentences are the rows that Start becomes, the one without a step, too.
func (m byRows) sentences() [][]int { return append([][]int{{m.g.Start}}, m.all[m.g.Start]...) }

func (m byRows) comeTo(sym int) bool {
	return slices.ContainsFunc(m.sentences(), func(row []int) bool { return slices.Contains(row, sym) })
}

func (m byRows) terminals(row []int) bool {
	return !slices.ContainsFunc(row, func(s int) bool { return s >= m.g.Terms })
}

func (m byRows) good(sym int) bool { return slices.ContainsFunc(m.all[sym], m.terminals) }

func (m byRows) round(sym int) bool {
	return slices.ContainsFunc(m.all[sym], func(row []int) bool { return slices.Equal(row, []int{sym}) })
}

func (m byRows) first(sym int) []int {
	if sym < m.g.Terms {
		return []int{sym}
	}
	var l []int
	for _, row := range m.all[sym] {
		if m.terminals(row) {
			l = append(l, row[0])
		}
	}
	return rising(l)
}

func (m byRows) follow(sym int) []int {
	var l []int
	for _, row := range m.sentences() {
		for i, s := range row {
			switch {
			case s != sym:
			case i == len(row)-1:
				l = append(l, m.g.Terms)
			case row[i+1] < m.g.Terms:
				l = append(l, row[i+1])
			}
		}
	}
	return rising(l)
}

func rising(l []int) []int {
	l = slices.Clone(l)
	slices.Sort(l)
	return slices.Compact(l)
}

// byPairs tells all by what stands within a row side by side: of any grammar.
type byPairs struct{ g api.Grammar }

// reached is all to which one is led, by any number of steps from those at the beginning.
func reached[T comparable](begin []T, next func(T) []T) map[T]int {
	seen := map[T]int{}
	for len(begin) > 0 {
		x := begin[0]
		begin = begin[1:]
		if seen[x] == 0 {
			seen[x] = 1
			begin = append(begin, next(x)...)
		}
	}
	return seen
}

// bodies are those of a symbol's productions.
func (m byPairs) bodies(sym int) [][]int {
	var l [][]int
	for _, p := range m.g.Prods {
		if p.Head == sym {
			l = append(l, p.Body)
		}
	}
	return l
}

func (m byPairs) comeTo(sym int) bool {
	all := reached([]int{m.g.Start}, func(s int) []int { return slices.Concat(m.bodies(s)...) })
	return all[sym] > 0
}

// good: there is a tree that has no head below itself.
func (m byPairs) good(sym int) bool { return m.tree(sym, nil) }

func (m byPairs) tree(sym int, above []int) bool {
	if sym < m.g.Terms {
		return true
	}
	if slices.Contains(above, sym) {
		return false
	}
	above = append(slices.Clone(above), sym)
	return slices.ContainsFunc(m.bodies(sym), func(body []int) bool {
		return !slices.ContainsFunc(body, func(s int) bool { return !m.tree(s, above) })
	})
}

func (m byPairs) round(sym int) bool {
	alone := func(s int) []int {
		var l []int
		for _, body := range m.bodies(s) {
			if len(body) == 1 {
				l = append(l, body[0])
			}
		}
		return l
	}
	return reached(alone(sym), alone)[sym] > 0
}

func (m byPairs) first(sym int) []int {
	var l []int
	for s := range reached([]int{sym}, m.ahead) {
		if s < m.g.Terms {
			l = append(l, s)
		}
	}
	return rising(l)
}

// ahead are the first symbols of a symbol's bodies.
func (m byPairs) ahead(sym int) []int {
	var l []int
	for _, body := range m.bodies(sym) {
		l = append(l, body[0])
	}
	return l
}

func (m byPairs) follow(sym int) []int {
	// The end stands behind Start as a terminal does behind another symbol.
	pairs := [][2]int{{m.g.Start, -1}}
	for _, p := range m.g.Prods {
		for i := range p.Body[1:] {
			pairs = append(pairs, [2]int{p.Body[i], p.Body[i+1]})
		}
	}
	all := reached(pairs, func(x [2]int) [][2]int {
		var l [][2]int
		for _, body := range m.bodies(x[0]) {
			l = append(l, [2]int{body[len(body)-1], x[1]})
		}
		for _, s := range m.ahead(x[1]) {
			l = append(l, [2]int{x[0], s})
		}
		return l
	})
	var l []int
	for x := range all {
		if x[0] == sym && x[1] < m.g.Terms {
			l = append(l, x[1])
		}
	}
	if l = rising(l); len(l) > 0 && l[0] < 0 {
		l = append(l[1:], m.g.Terms)
	}
	return l
}

// checked is what Check is to tell of a grammar whose numbers are right, and whose bodies are neither empty nor too long.
func checked(g api.Grammar, m model) api.Errno {
	for i, p := range g.Prods {
		for j, q := range g.Prods {
			if i != j && p.Head == q.Head && slices.Equal(p.Body, q.Body) {
				return api.ErrArg
			}
		}
	}
	round := false
	for head := g.Terms; head < g.Symbols; head++ {
		if !m.comeTo(head) || !m.good(head) {
			return api.ErrUnused
		}
		round = round || m.round(head)
	}
	if round {
		return api.ErrCycle
	}
	return api.OK
}
