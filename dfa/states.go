package dfa

import (
	"math/bits"

	"rootstock/api"
)

// states is a set of states of an automaton with choice, a bit for each that there may be: so it is a key of a map.
type states [2 * api.MaxParts / 64]uint64

// has tells whether a state is in a set.
func (s *states) has(state int) bool {
	return s[state/64]>>(state%64)&1 == 1
}

// add puts a state into a set.
func (s *states) add(state int) {
	s[state/64] |= 1 << (state % 64)
}

// meet is what is in both of two sets.
func meet(s, t *states) states {
	var both states
	for i := range both {
		both[i] = s[i] & t[i]
	}
	return both
}

// each goes through a set's states, rising.
func (s *states) each(yield func(state int) bool) {
	for i, word := range s {
		for ; word != 0; word &= word - 1 {
			if !yield(64*i + bits.TrailingZeros64(word)) {
				return
			}
		}
	}
}

// front is a set of states that grows, and the list of these as they were come to.
type front struct {
	set  states
	list []int
}

// empty takes all states out.
func (f *front) empty() {
	f.set = states{}
	f.list = f.list[:0]
}

// reach puts a state in, unless it is there.
func (f *front) reach(state int) {
	if !f.set.has(state) {
		f.set.add(state)
		f.list = append(f.list, state)
	}
}

// spread puts in to where ways lead, one behind the other.
func (f *front) spread(ways [][]int) {
	// What is put in has ways, too: the list grows while it is gone through.
	for i := 0; i < len(f.list); i++ {
		for _, to := range ways[f.list[i]] {
			f.reach(to)
		}
	}
}
