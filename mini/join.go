package mini

import (
	"slices"

	"rootstock/api"
)

// joined is an automaton in which states that are alike are one. It is for such as trimmed makes: the states stand in the order of the first texts that lead to them, short ones ahead, so that of those that are alike the first one has the number by which they are come to.
func joined(d api.Dfa) api.Dfa {
	g := groupsOf(d)
	number, firsts := g.inOrder()
	out := api.Dfa{Class: d.Class}
	for _, state := range firsts {
		var next []int
		for _, to := range d.Next[state] {
			if to >= 0 {
				to = number[g.of[to]]
			}
			next = append(next, to)
		}
		out.Next = append(out.Next, next)
		out.Rule = append(out.Rule, d.Rule[state])
	}
	return out
}

// groups are an automaton's states, parted again and again, until those of one group are alike.
type groups struct {
	of      []int     // of each state its group
	members [][]int   // of each group its states
	back    [][][]int // of each class, of each state which ones lead to it
	leading [][]int   // of each group those that lead to the states by which it is being parted
	touched []int     // the groups that have such
}

// groupsOf parts an automaton's states.
func groupsOf(d api.Dfa) *groups {
	g := &groups{of: make([]int, len(d.Next)), back: make([][][]int, len(d.Next[0]))}
	for class := range g.back {
		g.back[class] = make([][]int, len(d.Next))
		for from, row := range d.Next {
			if to := row[class]; to >= 0 {
				g.back[class][to] = append(g.back[class][to], from)
			}
		}
	}
	g.partByRules(d.Rule)
	// Each group has its turn. Where one is parted the smaller part gets a new number, so that its turn is to come: if the whole had its turn that does for both parts, if not the larger one keeps the whole's turn.
	for at := 0; at < len(g.members); at++ {
		to := g.members[at]
		for class := range g.back {
			g.partBy(to, class)
		}
	}
	return g
}

// inOrder tells of each group its number, if they are numbered by the first state of each, and these states.
func (g *groups) inOrder() (number, firsts []int) {
	number = slices.Repeat([]int{nowhere}, len(g.members))
	for state, group := range g.of {
		if number[group] == nowhere {
			number[group] = len(firsts)
			firsts = append(firsts, state)
		}
	}
	return number, firsts
}

// partByRules puts states together where the same rule ends, or none.
func (g *groups) partByRules(rule []int) {
	number := map[int]int{}
	for state, r := range rule {
		group, ok := number[r]
		if !ok {
			group = g.add(nil)
			number[r] = group
		}
		g.of[state] = group
		g.members[group] = append(g.members[group], state)
	}
}

// add makes a group of some states.
func (g *groups) add(members []int) int {
	g.members = append(g.members, members)
	g.leading = append(g.leading, nil)
	return len(g.members) - 1
}

// partBy parts all groups by whether a class leads from their states to some states.
func (g *groups) partBy(states []int, class int) {
	g.touched = g.touched[:0]
	for _, to := range states {
		for _, from := range g.back[class][to] {
			group := g.of[from]
			if len(g.leading[group]) == 0 {
				g.touched = append(g.touched, group)
			}
			g.leading[group] = append(g.leading[group], from)
		}
	}
	for _, group := range g.touched {
		g.part(group)
	}
}

// part parts a group into the states that lead there and those that don't. It makes lists anew: those that are being gone through stay.
func (g *groups) part(group int) {
	small := g.leading[group]
	g.leading[group] = nil
	if len(small) == len(g.members[group]) {
		return
	}
	other := g.add(nil)
	g.put(small, other)
	var large []int
	for _, state := range g.members[group] {
		if g.of[state] == group {
			large = append(large, state)
		}
	}
	if len(large) < len(small) {
		small, large = large, small
		g.put(small, other)
		g.put(large, group)
	}
	g.members[group], g.members[other] = large, small
}

// put tells that states are of a group.
func (g *groups) put(states []int, group int) {
	for _, state := range states {
		g.of[state] = group
	}
}
