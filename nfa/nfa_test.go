package nfa_test

import (
	"math"
	"reflect"
	"testing"

	"rootstock/api"
	"rootstock/nfa"
	"rootstock/sets"
)

// dead is a state without ways and rule.
var dead = api.Step{To: -1, Rule: -1}

// from is an automaton of some states.
func from(start int, steps ...api.Step) api.Nfa { return api.Nfa{Start: start, Steps: steps} }

// freely are states, as many, each with as many free ways, all to the first one.
func freely(states, ways int) []api.Step {
	return times(states, api.Step{To: -1, Free: make([]int, ways), Rule: -1})
}

func TestCheck(t *testing.T) {
	all := sets.Not(api.Set{})
	for i, n := range []api.Nfa{
		from(0, dead), from(0, api.Step{}), from(2, dead, dead, dead), from(0, api.Step{Free: []int{}}),
		from(0, api.Step{Free: []int{0}, Rule: 47}), from(0, api.Step{Set: all, To: 0, Free: []int{0, 0, 0}, Rule: 0}),
		from(1, api.Step{Set: all, To: 2, Rule: 47}, api.Step{To: 2, Free: []int{2, 1, 0}, Rule: 1}, api.Step{Set: all, To: -1, Rule: 47}),
		from(0, api.Step{To: math.MinInt, Rule: math.MinInt}), from(0, api.Step{Set: all, To: -2, Rule: -48}),
		from(0, times(4095, dead)...), from(0, times(4096, dead)...), from(4095, times(4096, api.Step{To: 4095, Free: []int{4095, 0}, Rule: 47})...),
		from(0, freely(1, 16383)...), from(0, freely(1, 16384)...), from(0, freely(4096, 4)...), from(4095, freely(4096, 4)...), from(0, freely(128, 128)...),
	} {
		if e := nfa.Check(n); e != api.OK {
			t.Errorf("%d: %v", i, e)
		}
	}
}

// refused holds that an automaton may not be, and why.
func refused(t *testing.T, what any, n api.Nfa, want api.Errno) {
	t.Helper()
	if e := nfa.Check(n); e != want {
		t.Errorf("%v: Check %v, not %v", what, e, want)
	}
	for _, text := range []string{"", "a", "abc"} {
		if l, e := nfa.Accepts(n, text); len(l) > 0 || e != want {
			t.Errorf("%v: Accepts %v, %v, not %v", what, l, e, want)
		}
	}
}

func TestWhatMayNotBe(t *testing.T) {
	for i, n := range []api.Nfa{
		{}, {Steps: []api.Step{}}, {Start: -1}, {Start: 1},
		from(-1, dead), from(1, dead), from(2, dead, dead), from(math.MaxInt, dead), from(math.MinInt, dead), from(4096, times(4096, dead)...),
		// What may not be is looked at where nothing leads, too.
		{Start: 1, Steps: make([]api.Step, 1)}, {Start: -1, Steps: make([]api.Step, 1)},
	} {
		refused(t, i, n, api.ErrArg)
	}
	for i, s := range []api.Step{
		{To: 3}, {To: 4}, {To: math.MaxInt}, {Set: sets.Of("a"), To: 3},
		{Free: []int{3}}, {Free: []int{-1}}, {Free: []int{0, 1, 2, 3}}, {Free: []int{3, 0}}, {Free: []int{0, -1, 0}}, {Free: []int{math.MaxInt}}, {Free: []int{math.MinInt}},
		{Rule: 48}, {Rule: 49}, {Rule: 64}, {Rule: 256}, {Rule: math.MaxInt},
	} {
		refused(t, i, from(0, s, dead, dead), api.ErrArg)
		refused(t, i, from(0, dead, s, dead), api.ErrArg)
		refused(t, i, from(0, dead, dead, s), api.ErrArg)
	}
	last := api.Step{To: 4096, Rule: -1}
	refused(t, "To", from(0, append(times(4095, dead), last)...), api.ErrArg)
	refused(t, "Free", from(0, append(times(4095, dead), api.Step{Free: []int{4096}})...), api.ErrArg)
	refused(t, "Rule", from(0, append(times(4095, dead), api.Step{Rule: 48})...), api.ErrArg)
}

func TestTooMany(t *testing.T) {
	one := api.Step{To: -1, Free: []int{0}, Rule: -1}
	for i, n := range []api.Nfa{
		from(0, times(4097, dead)...), from(0, times(4098, dead)...), from(0, times(100000, dead)...), from(0, times(4097, one)...),
		from(0, freely(1, 16385)...), from(0, freely(1, 100000)...), from(0, append(freely(1, 16384), one)...), from(0, append([]api.Step{one}, freely(1, 16384)...)...), from(0, append(freely(128, 128), one)...), from(0, append(freely(4095, 4), freely(1, 5)...)...), from(0, freely(4096, 5)...), from(0, freely(4096, 1<<16)...),
		// Too many comes ahead of what may not be.
		from(-1, times(4097, dead)...), from(0, times(4097, api.Step{To: 5000})...), from(0, times(4097, api.Step{Rule: 48})...),
		from(1, freely(1, 16385)...), from(0, api.Step{Free: times(16385, 1)}), from(0, api.Step{Free: times(16385, -1)}), from(0, append(freely(1, 16385), api.Step{Rule: 48})...),
	} {
		refused(t, i, n, api.ErrLong)
	}
	// One fewer of each is told by what else it is.
	refused(t, "states", from(-1, times(4096, dead)...), api.ErrArg)
	refused(t, "free ways", from(0, api.Step{Free: times(16384, 1)}), api.ErrArg)
}

func TestAutomataStayWhatTheyWere(t *testing.T) {
	d := dice(1)
	for range 300 {
		n := d.automaton()
		was := copied(n)
		nfa.Check(n)
		nfa.Accepts(n, d.text(d.roll(6), "ab"))
		if !reflect.DeepEqual(n, was) {
			t.Errorf("%v became %v", was, n)
		}
	}
}
