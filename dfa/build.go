package dfa

import (
	"rootstock/api"
	"rootstock/nfa"
	"rootstock/sets"
)

// Of is the automaton without choice that tells of each text the least rule by which one with choice accepts it.
func Of(n api.Nfa) (api.Dfa, api.Errno) {
	if e := nfa.Check(n); e != api.OK {
		return api.Dfa{}, e
	}
	b := newBuilder(n)
	if !b.find(n.Start) {
		return api.Dfa{}, api.ErrLong
	}
	return b.automaton(), api.OK
}

// builder finds the sets of an automaton with choice, and where each of them leads.
type builder struct {
	steps []api.Step
	free  [][]int        // of each state its free ways
	live  states         // the states from which some text leads to where a rule ends
	sort  [256]uint8     // of each byte its sort: bytes that no state tells apart are of one
	by    []states       // of each sort the states that have a way by its bytes
	sets  []states       // the sets that have a number
	found map[states]int // these numbers
	rows  [][]int        // of each set that was gone on from the number to which each sort leads
	front front          // the set that is being found
}

// newBuilder looks through an automaton's states.
func newBuilder(n api.Nfa) *builder {
	b := &builder{steps: n.Steps, found: map[states]int{}}
	for _, s := range n.Steps {
		b.free = append(b.free, s.Free)
	}
	b.findLive()
	b.findSorts()
	return b
}

// findLive finds the states from which some text leads to where a rule ends: the ways are gone back from there.
func (b *builder) findLive() {
	var f front
	back := make([][]int, len(b.steps))
	for i, s := range b.steps {
		// No byte is in the Set of none: by it nothing leads to To.
		if s.To >= 0 && s.Set != (api.Set{}) {
			back[s.To] = append(back[s.To], i)
		}
		for _, to := range s.Free {
			back[to] = append(back[to], i)
		}
		if s.Rule >= 0 {
			f.reach(i)
		}
	}
	f.spread(back)
	b.live = f.set
}

// findSorts puts bytes together by which just the same states have a way, so that each sort is gone on by once. They are numbered by the least byte of each.
func (b *builder) findSorts() {
	number := map[states]uint8{}
	for at := range b.sort {
		var by states
		for i, s := range b.steps {
			if s.To >= 0 && sets.Has(s.Set, byte(at)) {
				by.add(i)
			}
		}
		sort, ok := number[by]
		if !ok {
			sort = uint8(len(b.by))
			number[by] = sort
			b.by = append(b.by, by)
		}
		b.sort[at] = sort
	}
}

// find finds the first set and those that are alive, and tells whether there are no more than may be.
func (b *builder) find(start int) bool {
	b.front.reach(start)
	b.front.spread(b.free)
	b.add()
	for at := 0; at < len(b.sets); at++ {
		if len(b.sets) > api.MaxParts {
			return false
		}
		b.goOn(at)
	}
	return true
}

// goOn finds where a set leads. Sorts rise by their least bytes: the sets are come to in the same order as byte by byte.
func (b *builder) goOn(at int) {
	row := make([]int, len(b.by))
	for sort := range row {
		b.lead(at, sort)
		row[sort] = b.number()
	}
	b.rows = append(b.rows, row)
}

// lead finds the set to which the bytes of a sort lead from another one.
func (b *builder) lead(at, sort int) {
	b.front.empty()
	ways := meet(&b.sets[at], &b.by[sort])
	for state := range ways.each {
		b.front.reach(b.steps[state].To)
	}
	b.front.spread(b.free)
}

// number is the number of the set that was found, which it gets if it has none yet; nowhere, if it is not alive.
func (b *builder) number() int {
	if meet(&b.front.set, &b.live) == (states{}) {
		return nowhere
	}
	if number, ok := b.found[b.front.set]; ok {
		return number
	}
	return b.add()
}

// add gives the set that was found the next number.
func (b *builder) add() int {
	number := len(b.sets)
	b.found[b.front.set] = number
	b.sets = append(b.sets, b.front.set)
	return number
}

// automaton is the one whose states are the sets.
func (b *builder) automaton() api.Dfa {
	class, count := b.classes()
	d := api.Dfa{Class: class}
	for at, row := range b.rows {
		next := make([]int, count)
		for i, c := range class {
			next[c] = row[b.sort[i]]
		}
		d.Next = append(d.Next, next)
		d.Rule = append(d.Rule, b.rule(at))
	}
	return d
}

// classes puts bytes together that lead to the same from each set (more than those of a sort, as sets that are not alive are one), and tells how many classes there are. They are numbered by the least byte of each.
func (b *builder) classes() (class [256]uint8, count int) {
	for _, row := range b.rows {
		number := map[[2]int]uint8{}
		for i, c := range class {
			key := [2]int{int(c), row[b.sort[i]]}
			next, ok := number[key]
			if !ok {
				next = uint8(len(number))
				number[key] = next
			}
			class[i] = next
		}
		count = len(number)
	}
	return class, count
}

// rule is the least rule that ends at one of a set's states.
func (b *builder) rule(at int) int {
	least := noRule
	for state := range b.sets[at].each {
		if r := b.steps[state].Rule; r >= 0 && (least == noRule || r < least) {
			least = r
		}
	}
	return least
}
