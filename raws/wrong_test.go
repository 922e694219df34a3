package raws_test

import (
	"math"
	"strings"
	"testing"

	"rootstock/api"
	"rootstock/dfa"
)

// short and long are texts that may be, and texts that may not.
func short() []string { return []string{"", "a", "if x1", "\x00\xff", strings.Repeat("a", 300)} }
func long() []string {
	return []string{strings.Repeat("a", api.MaxText+1), strings.Repeat("\xff", 2*api.MaxText)}
}

// wrong are automata that may not be, in each way, by what is told of them.
func wrong() map[api.Errno][]api.Dfa {
	three := api.Dfa{Next: [][]int{{0, 1}, {2, -1}, {-1, 0}}, Rule: []int{-1, 5, 0}}
	l := []api.Dfa{
		// No state; not as many rows as rules.
		{}, {Next: [][]int{}, Rule: []int{}}, {Start: -1}, {Rule: []int{0}}, {Next: [][]int{{0}}}, {Next: [][]int{{0}, {0}}, Rule: []int{0}}, {Next: [][]int{{0}}, Rule: []int{0, 0}},
		// No place; too many; rows of unlike lengths.
		{Next: [][]int{{}}, Rule: []int{0}}, {Next: [][]int{nil, nil}, Rule: []int{0, 0}}, flat(1, 257), {Next: [][]int{{0}, {}}, Rule: []int{0, 0}}, {Next: [][]int{{0}, {0, 0}}, Rule: []int{0, 0}},
		// A class that is none.
		changed(three, func(d *api.Dfa) { d.Class[255] = 2 }), changed(flat(1, 255), func(d *api.Dfa) { d.Class[0] = 255 }),
	}
	for _, n := range []int{api.MaxRules, math.MaxInt} {
		l = append(l, changed(three, func(d *api.Dfa) { d.Start = n }), changed(three, func(d *api.Dfa) { d.Start = -n }))
		for state := range 3 {
			l = append(l, changed(three, func(d *api.Dfa) { d.Next[state][1] = n }), changed(three, func(d *api.Dfa) { d.Rule[state] = n }))
		}
	}
	// The least numbers that are none.
	l = append(l, changed(three, func(d *api.Dfa) { d.Start = 3 }), changed(three, func(d *api.Dfa) { d.Start = -1 }), changed(three, func(d *api.Dfa) { d.Next[2][0] = 3 }))
	rows := flat(2049, 1).Next
	return map[api.Errno][]api.Dfa{api.ErrArg: l, api.ErrLong: {
		flat(2049, 1), {Next: rows}, {Rule: times(2049, 0)}, {Next: rows[:2048], Rule: times(2049, 0)}, {Next: rows, Rule: times(2048, 47)}, changed(flat(2049, 1), func(d *api.Dfa) { d.Start = -1 }), {Next: make([][]int, 2049), Rule: times(2049, 48)},
	}}
}

func TestAutomataThatMayNotBe(t *testing.T) {
	// The automaton's error comes ahead of rules that are none, and of a text that is too long.
	for want, bad := range wrong() {
		for i, d := range bad {
			if e := dfa.Check(d); e != want {
				t.Fatalf("%d: %v, not %v", i, e, want)
			}
			for _, rules := range [][]api.Rule{nil, {}, language, kinds(times(60, 1)...)} {
				for _, text := range append(short(), long()...) {
					refused(t, i, rules, d, text, want)
				}
			}
		}
	}
}

func TestRulesThatAreNone(t *testing.T) {
	for n := range api.MaxRules {
		rules := kinds(times(n, 3)...)
		for rule := range api.MaxRules {
			// At Start; where a way leads; at a state that nothing leads to.
			for i, d := range []api.Dfa{changed(flat(1, 1), func(d *api.Dfa) { d.Rule[0] = rule }), single('a', rule), changed(flat(3, 2), func(d *api.Dfa) { d.Rule[2] = rule })} {
				if rule < n {
					told(t, rules, d, "ab")
					continue
				}
				refused(t, i, rules, d, "ab", api.ErrArg)
			}
		}
	}
	// At one of many, be it the last one; with texts of each length, the ones that are too long, too.
	for _, state := range []int{0, 1, 1023, 2047} {
		d := changed(flat(2048, 2), func(d *api.Dfa) { d.Rule[state] = 23 })
		for _, text := range append(short(), long()...) {
			refused(t, state, language, d, text, api.ErrArg)
			refused(t, state, nil, d, text, api.ErrArg)
		}
		told(t, kinds(times(24, 0)...), d, "a")
	}
	for _, text := range append(short(), long()...) {
		refused(t, "one rule less", language[:22], own, text, api.ErrArg)
		refused(t, "no rules", nil, own, text, api.ErrArg)
		refused(t, "no rules", []api.Rule{}, single('a', 0), text, api.ErrArg)
	}
}

func TestTextsThatAreTooLong(t *testing.T) {
	for _, text := range long() {
		refused(t, "the language", language, own, text, api.ErrLong)
		refused(t, "one state", language, flat(1, 1), text, api.ErrLong)
		refused(t, "no rules", nil, flat(2, 3), text, api.ErrLong)
		refused(t, "more rules", kinds(times(60, 1)...), single('b', 47), text, api.ErrLong)
	}
	told(t, language, own, long()[0][1:])
}
