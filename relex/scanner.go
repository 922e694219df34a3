package relex

import (
	"slices"

	"rootstock/api"
)

// scanner is what a scan's rules and automaton say of bytes. It never changes, so that a scan and those behind its edits have one.
type scanner struct {
	kinds  []int // of the rules, by number
	d      api.Dfa
	onward []bool // whether the automaton goes on from a state
}

// newScanner makes one of rules and an automaton that may be, in memory of its own.
func newScanner(rules []api.Rule, d api.Dfa) *scanner {
	c := &scanner{d: api.Dfa{Start: d.Start, Class: d.Class, Rule: slices.Clone(d.Rule)}}
	for _, r := range rules {
		c.kinds = append(c.kinds, r.Kind)
	}
	for _, row := range d.Next {
		c.d.Next = append(c.d.Next, slices.Clone(row))
		c.onward = append(c.onward, slices.ContainsFunc(row, func(to int) bool { return to >= 0 }))
	}
	return c
}

// piece is the first piece of what is left of a text, one byte at least. It leads the automaton itself, as raws.Of would scan all that is left, however soon the old pieces come back.
func (c *scanner) piece(left string) api.Raw {
	r := api.Raw{Kind: api.KBad, Len: 1}
	state := c.d.Start
	for r.Look == 0 || c.onward[state] {
		// What comes next is looked at, be it the text's end.
		r.Look++
		if r.Look > len(left) {
			break
		}
		state = c.d.Next[state][c.d.Class[left[r.Look-1]]]
		if state < 0 {
			break
		}
		if rule := c.d.Rule[state]; rule >= 0 {
			r.Kind, r.Len = c.kinds[rule], r.Look
		}
	}
	return r
}
