package derive

// place is a thing at a place of the row.
type place struct {
	thing, at int
}

// search goes to all that may stand at the row's places in what a symbol becomes.
type search struct {
	reader
	seen  map[place]int
	found int // how many of the row's terminals may stand where they do
}

// viable is how many of the row's terminals, from the first on, are a beginning of what a symbol becomes. As each head is good for something, all that is begun can be ended.
func (r reader) viable(sym int) int {
	s := &search{reader: r, seen: map[place]int{}}
	s.expect(place{thing: sym})
	return s.found
}

// expect goes on from a thing that may stand at a place, behind all of the row that is ahead of it.
func (s *search) expect(p place) {
	if p.at == len(s.row) || s.seen[p] > 0 {
		return
	}
	s.seen[p] = 1
	if p.thing < s.terms {
		if s.row[p.at] == p.thing {
			s.found = max(s.found, p.at+1)
		}
		return
	}
	for _, q := range s.singles {
		if q.head == p.thing {
			s.expect(place{thing: q.sym, at: p.at})
		}
	}
	for _, q := range s.pairs {
		if q.thing == p.thing {
			s.expectPair(q, p.at)
		}
	}
}

// expectPair goes on from a pair that may stand at a place: its rest may stand behind each stretch that its first thing becomes.
func (s *search) expectPair(q pair, at int) {
	s.expect(place{thing: q.first, at: at})
	for to := at + 1; to < len(s.row); to++ {
		if s.stretch(at, to).of[q.first] > 0 {
			s.expect(place{thing: q.rest, at: to})
		}
	}
}
