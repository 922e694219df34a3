package nfa

import (
	"slices"

	"rootstock/api"
	"rootstock/regs"
)

// mostPatterns is how many patterns all rules together may have in them.
const mostPatterns = api.MaxParts - 1

// Of is an automaton that accepts each text by the numbers of the rules whose patterns match it.
func Of(rules []api.Rule) (api.Nfa, api.Errno) {
	if e := refused(rules); e != api.OK {
		return api.Nfa{}, e
	}
	var b builder
	var firsts []int
	for i, r := range rules {
		firsts = append(firsts, b.lay(r.Reg, b.end(i)))
	}
	start := b.free(firsts...)
	return api.Nfa{Start: start, Steps: b.steps}, api.OK
}

// refused tells why there is no automaton of rules.
func refused(rules []api.Rule) api.Errno {
	if len(rules) > api.MaxRules {
		return api.ErrLong
	}
	patterns := 0
	for _, r := range rules {
		if e := regs.Check(r.Reg); e != api.OK {
			return e
		}
		patterns += regs.Size(r.Reg)
	}
	if patterns > mostPatterns {
		return api.ErrLong
	}
	for _, r := range rules {
		if !matchesSome(r.Reg) {
			return api.ErrBlank
		}
	}
	return api.OK
}

// matchesSome tells whether there is a text that a pattern matches.
func matchesSome(r api.Reg) bool {
	switch r.Kind {
	case api.RegNone:
		return false
	case api.RegSet:
		return r.Set != api.Set{}
	case api.RegCat, api.RegPlus:
		return !slices.ContainsFunc(r.Parts, matchesNone)
	case api.RegAlt:
		return slices.ContainsFunc(r.Parts, matchesSome)
	}
	// The others match the empty text, whatever their parts match.
	return true
}

// matchesNone tells whether a pattern matches nothing.
func matchesNone(r api.Reg) bool {
	return !matchesSome(r)
}

// builder lays an automaton's states. A pattern is laid from its end on: what comes behind it is there already, so that it needs no state of its own to end in, and ways that come together do so in one state.
type builder struct {
	steps []api.Step
}

// add lays a state.
func (b *builder) add(s api.Step) int {
	b.steps = append(b.steps, s)
	return len(b.steps) - 1
}

// end lays a state where a rule ends.
func (b *builder) end(rule int) int {
	return b.add(api.Step{To: none, Rule: rule})
}

// free lays a state with free ways to others. It keeps the list.
func (b *builder) free(to ...int) int {
	return b.add(api.Step{To: none, Free: to, Rule: none})
}

// lay lays a pattern that may be, and tells the state from which just the texts that it matches lead to what comes behind it.
func (b *builder) lay(r api.Reg, behind int) int {
	switch r.Kind {
	case api.RegEmpty:
		return behind
	case api.RegSet:
		return b.add(api.Step{Set: r.Set, To: behind, Rule: none})
	case api.RegCat:
		for _, p := range slices.Backward(r.Parts) {
			behind = b.lay(p, behind)
		}
		return behind
	case api.RegAlt:
		return b.choice(r.Parts, behind)
	case api.RegStar:
		_, again := b.loop(r.Parts[0], behind)
		return again
	case api.RegPlus:
		first, _ := b.loop(r.Parts[0], behind)
		return first
	case api.RegMaybe:
		return b.free(b.lay(r.Parts[0], behind), behind)
	}
	// RegNone: nothing leads on from here.
	return b.free()
}

// choice lays patterns of which one matches.
func (b *builder) choice(parts []api.Reg, behind int) int {
	var firsts []int
	for _, p := range parts {
		firsts = append(firsts, b.lay(p, behind))
	}
	return b.free(firsts...)
}

// loop lays a pattern that may match several times: first is where it begins to match, again where it has matched any number of times, and may go on or not.
func (b *builder) loop(part api.Reg, behind int) (first, again int) {
	again = b.free(behind)
	first = b.lay(part, again)
	b.steps[again].Free = append(b.steps[again].Free, first)
	return first, again
}
