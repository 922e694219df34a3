package munch_test

import (
	"math"
	"strings"
	"testing"

	"rootstock/api"
	"rootstock/dfa"
	"rootstock/munch"
)

// refused holds that a place of a text is told with an error, and nothing else.
func refused(t *testing.T, what any, d api.Dfa, text string, at int, want api.Errno) {
	t.Helper()
	if m, e := munch.At(d, text, at); e != want || m != (api.Munch{}) {
		t.Errorf("%v: %.20q at %d: %v, %v, not %v", what, text, at, m, e, want)
	}
}

func TestPlacesThatAreNone(t *testing.T) {
	for i, d := range []api.Dfa{known, flat(1, 1), flat(2048, 2), {Next: [][]int{{0}}, Rule: []int{0}}} {
		for _, at := range []int{0, 1, 2, -1, -2, math.MaxInt, math.MinInt} {
			refused(t, i, d, "", at, api.ErrNone)
		}
		for _, text := range []string{"a", "aab", "aaba\xff", strings.Repeat("a", api.MaxText)} {
			n := len(text)
			for _, at := range []int{n, n + 1, 2 * n, math.MaxInt, -1, -n, -n - 1, math.MinInt} {
				refused(t, i, d, text, at, api.ErrNone)
			}
			// The last byte is at a place.
			found(t, d, text, n-1)
		}
	}
}

// wrong are automata that may not be, in each way.
func wrong() []api.Dfa {
	three := api.Dfa{Class: classes("a"), Next: [][]int{{0, 1}, {2, -1}, {-1, 0}}, Rule: []int{-1, 5, 0}}
	l := []api.Dfa{
		// No state; not as many rows as rules.
		{}, {Next: [][]int{}, Rule: []int{}}, {Start: -1}, {Rule: []int{0}}, {Next: [][]int{{0}}}, {Next: [][]int{{0}, {0}}, Rule: []int{0}}, {Next: [][]int{{0}}, Rule: []int{0, 0}},
		// No place; too many; rows of unlike lengths.
		{Next: [][]int{{}}, Rule: []int{0}}, {Next: [][]int{nil, nil}, Rule: []int{0, 0}}, flat(1, 257), flat(2048, 257), {Next: [][]int{{0}, {}}, Rule: []int{0, 0}}, {Next: [][]int{{0}, {0, 0}}, Rule: []int{0, 0}}, {Next: [][]int{{0, 0}, {0}}, Rule: []int{0, 0}},
	}
	for _, start := range []int{3, -1, math.MaxInt, math.MinInt} {
		l = append(l, changed(three, func(d *api.Dfa) { d.Start = start }))
	}
	for state := range 3 {
		for _, n := range []int{3, math.MaxInt} {
			l = append(l, changed(three, func(d *api.Dfa) { d.Next[state][1] = n }))
		}
		for _, n := range []int{48, math.MaxInt} {
			l = append(l, changed(three, func(d *api.Dfa) { d.Rule[state] = n }))
		}
	}
	for _, b := range []byte{0, 'a', 255} {
		l = append(l, changed(three, func(d *api.Dfa) { d.Class[b] = 2 }), changed(flat(1, 255), func(d *api.Dfa) { d.Class[b] = 255 }))
	}
	// What no text comes to counts, too.
	return append(l, changed(flat(2, 2), func(d *api.Dfa) { d.Next[1][1] = 2 }), changed(flat(2, 1), func(d *api.Dfa) { d.Rule[1] = 48 }))
}

// long are automata of too many states, whatever else there is.
func long() []api.Dfa {
	rows := flat(2049, 1).Next
	return []api.Dfa{
		flat(2049, 1), flat(4096, 2), {Next: rows}, {Rule: times(2049, 0)}, {Next: rows[:2048], Rule: times(2049, 0)}, {Next: rows, Rule: times(2048, 0)},
		changed(flat(2049, 1), func(d *api.Dfa) { d.Start = -1 }), {Next: make([][]int, 2049), Rule: times(2049, 48)},
	}
}

func TestAutomataThatMayNotBe(t *testing.T) {
	places := []struct {
		text string
		at   int
	}{
		{"a", 0}, {"bab", 1}, {"\x00\xff", 1},
		// The automaton's error comes ahead of a place that is none.
		{"", 0}, {"", -1}, {"", 1}, {"a", 1}, {"a", 2}, {"a", -1}, {"ab", math.MaxInt}, {"ab", math.MinInt},
	}
	for want, bad := range map[api.Errno][]api.Dfa{api.ErrArg: wrong(), api.ErrLong: long()} {
		for i, d := range bad {
			if e := dfa.Check(d); e != want {
				t.Fatalf("%d: %v, not %v", i, e, want)
			}
			for _, p := range places {
				refused(t, i, d, p.text, p.at, want)
			}
		}
	}
}
