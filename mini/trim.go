package mini

import (
	"slices"

	"rootstock/api"
)

// trimmed is an automaton with no states but its Start and the live ones that are come to from there. They are numbered as they are come to: classes rise by their least bytes, so that class by class is byte by byte.
func trimmed(d api.Dfa) api.Dfa {
	live := liveStates(d)
	number := slices.Repeat([]int{nowhere}, len(d.Next))
	number[d.Start] = 0
	found := []int{d.Start}
	out := api.Dfa{Class: d.Class}
	for at := 0; at < len(found); at++ {
		var next []int
		for _, to := range d.Next[found[at]] {
			if to < 0 || !live[to] {
				next = append(next, nowhere)
				continue
			}
			if number[to] == nowhere {
				number[to] = len(found)
				found = append(found, to)
			}
			next = append(next, number[to])
		}
		out.Next = append(out.Next, next)
		out.Rule = append(out.Rule, d.Rule[found[at]])
	}
	return out
}

// liveStates tells of each state whether some text leads from it to where a rule ends: the ways are gone back from there.
func liveStates(d api.Dfa) []bool {
	live := make([]bool, len(d.Next))
	var found []int
	reach := func(state int) {
		if !live[state] {
			live[state] = true
			found = append(found, state)
		}
	}
	for state, r := range d.Rule {
		if r >= 0 {
			reach(state)
		}
	}
	back := waysBack(d)
	for at := 0; at < len(found); at++ {
		for _, from := range back[found[at]] {
			reach(from)
		}
	}
	return live
}

// waysBack tells of each state which ones lead to it, once a class.
func waysBack(d api.Dfa) [][]int {
	back := make([][]int, len(d.Next))
	for from, row := range d.Next {
		for _, to := range row {
			if to >= 0 {
				back[to] = append(back[to], from)
			}
		}
	}
	return back
}
