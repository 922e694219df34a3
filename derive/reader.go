package derive

import "rootstock/api"

// tooMany stands for all numbers above MaxCount. One on the way may be cut to it, as what is made of it is nothing, or no less.
const tooMany = api.MaxCount + 1

// reader tells what things become a row's stretches.
type reader struct {
	parts
	row  []int
	told map[api.Span]ways
}

// ways are of each thing in how many ways it becomes a stretch of the row: of a symbol as many as there are trees.
type ways struct {
	of []uint64
}

func newReader(g api.Grammar, row []int) reader {
	return reader{parts: partsOf(g), row: row, told: map[api.Span]ways{}}
}

// whole is how many trees have a symbol at the root and the row as their leaves.
func (r reader) whole(sym int) uint64 {
	return r.stretch(0, len(r.row)).of[sym]
}

// stretch tells of what stands between two places of the row. What was asked once is kept.
func (r reader) stretch(from, to int) ways {
	key := api.Span{From: from, To: to}
	w, had := r.told[key]
	if !had {
		w = r.count(from, to)
		r.told[key] = w
	}
	return w
}

func (r reader) count(from, to int) ways {
	w := ways{of: make([]uint64, r.things)}
	if to-from == 1 {
		w.of[r.row[from]] = 1
	}
	for mid := from + 1; mid < to; mid++ {
		w.add(r.pairs, r.stretch(from, mid), r.stretch(mid, to))
	}
	for _, s := range r.singles {
		w.of[s.head] = min(w.of[s.head]+w.of[s.sym], tooMany)
	}
	return w
}

// add adds the ways in which pairs become two stretches, one behind the other.
func (w ways) add(pairs []pair, left, right ways) {
	for _, p := range pairs {
		if n := left.of[p.first]; n > 0 {
			w.of[p.thing] = min(w.of[p.thing]+n*right.of[p.rest], tooMany)
		}
	}
}
