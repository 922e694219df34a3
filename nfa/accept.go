package nfa

import (
	"rootstock/api"
	"rootstock/sets"
)

// Accepts are the rules by which an automaton accepts a text, rising.
func Accepts(n api.Nfa, text string) ([]int, api.Errno) {
	if e := Check(n); e != api.OK {
		return nil, e
	}
	f := front{steps: n.Steps, among: make([]bool, len(n.Steps))}
	f.reach(n.Start)
	f.goFree()
	for i := 0; i < len(text) && len(f.states) > 0; i++ {
		f.goBy(text[i])
		f.goFree()
	}
	return f.rules(), api.OK
}

// front has the states to which a text leads, each of them once.
type front struct {
	steps  []api.Step
	states []int
	among  []bool
}

// reach adds a state, unless it is among those that there are.
func (f *front) reach(state int) {
	if !f.among[state] {
		f.among[state] = true
		f.states = append(f.states, state)
	}
}

// goFree adds the states to which free ways lead.
func (f *front) goFree() {
	// What is added has free ways, too: the list grows while it is gone through.
	for i := 0; i < len(f.states); i++ {
		for _, to := range f.steps[f.states[i]].Free {
			f.reach(to)
		}
	}
}

// goBy goes on by a byte.
func (f *front) goBy(b byte) {
	from := f.states
	// Each state leads to one at most: what is written does not come up with what is still to be read.
	f.states = from[:0]
	clear(f.among)
	for _, state := range from {
		if s := &f.steps[state]; s.To >= 0 && sets.Has(s.Set, b) {
			f.reach(s.To)
		}
	}
}

// rules are the rules that end at one of the states, rising.
func (f *front) rules() []int {
	var ends [api.MaxRules]bool
	for _, state := range f.states {
		if r := f.steps[state].Rule; r >= 0 {
			ends[r] = true
		}
	}
	var l []int
	for r, end := range ends {
		if end {
			l = append(l, r)
		}
	}
	return l
}
