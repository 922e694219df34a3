package regs

import (
	"math/bits"

	"rootstock/api"
	"rootstock/sets"
)

// Matches tells whether a pattern matches the whole of a text.
func Matches(r api.Reg, text string) (bool, api.Errno) {
	if e := Check(r); e != api.OK {
		return false, e
	}
	if len(text) > api.MaxText {
		return false, api.ErrLong
	}
	var n net
	whole := n.lay(r)
	if text == "" {
		return whole.empty, api.OK
	}
	return n.reaches(whole, text), api.OK
}

// spots are some of a pattern's spots: the RegSets in it, numbered from the left. The spot n is among them, if the bit n % 64 of the word n / 64 is 1.
type spots [most / 64]uint64

// net says of a pattern's spots which ones have a byte, and which ones may match the byte behind one that another one matched. So a text is gone through once, whatever stands in what.
type net struct {
	count  int
	has    [256]spots
	behind [most]spots
}

// part is what those around a pattern have to know of it: whether it matches the empty text, and which spots may match the first and the last byte of others.
type part struct {
	empty       bool
	first, last spots
}

// lay lays the spots of a pattern that may be, behind those that there are.
func (n *net) lay(r api.Reg) part {
	switch r.Kind {
	case api.RegNone:
		return part{}
	case api.RegEmpty:
		return part{empty: true}
	case api.RegSet:
		return n.spot(r.Set)
	case api.RegCat:
		return n.row(r.Parts)
	case api.RegAlt:
		return n.choice(r.Parts)
	}
	p := n.lay(r.Parts[0])
	if r.Kind != api.RegMaybe {
		n.link(p.last, p.first)
	}
	p.empty = p.empty || r.Kind != api.RegPlus
	return p
}

// spot lays one spot more.
func (n *net) spot(s api.Set) part {
	var one spots
	one[n.count/64] = 1 << (n.count % 64)
	n.count++
	for _, b := range []byte(sets.Members(s)) {
		n.has[b] = either(n.has[b], one)
	}
	return part{first: one, last: one}
}

// row lays patterns that match one behind the other.
func (n *net) row(parts []api.Reg) part {
	all := part{empty: true}
	for _, r := range parts {
		p := n.lay(r)
		n.link(all.last, p.first)
		if all.empty {
			all.first = either(all.first, p.first)
		}
		if p.empty {
			p.last = either(all.last, p.last)
		}
		all.last = p.last
		all.empty = all.empty && p.empty
	}
	return all
}

// choice lays patterns of which one matches.
func (n *net) choice(parts []api.Reg) part {
	var all part
	for _, r := range parts {
		p := n.lay(r)
		all.empty = all.empty || p.empty
		all.first = either(all.first, p.first)
		all.last = either(all.last, p.last)
	}
	return all
}

// link says that each of some spots may match the byte behind one that each of some others matched.
func (n *net) link(from, to spots) {
	for i := range n.count {
		if from[i/64]>>(i%64)&1 == 1 {
			n.behind[i] = either(n.behind[i], to)
		}
	}
}

// reaches tells whether a text leads to one of the last spots.
func (n *net) reaches(whole part, text string) bool {
	at := both(whole.first, n.has[text[0]])
	for i := 1; i < len(text) && at != (spots{}); i++ {
		at = both(n.next(at), n.has[text[i]])
	}
	return both(at, whole.last) != (spots{})
}

// next are the spots that may match the byte behind one that some matched.
func (n *net) next(at spots) spots {
	var l spots
	for w, word := range at {
		for ; word != 0; word &= word - 1 {
			l = either(l, n.behind[w*64+bits.TrailingZeros64(word)])
		}
	}
	return l
}

// either are the spots that are among one of two.
func either(a, b spots) spots {
	for i := range a {
		a[i] |= b[i]
	}
	return a
}

// both are the spots that are among each of two.
func both(a, b spots) spots {
	for i := range a {
		a[i] &= b[i]
	}
	return a
}
