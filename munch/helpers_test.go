package munch_test

import (
	"math"
	"slices"
	"testing"

	"rootstock/api"
	"rootstock/dfa"
	"rootstock/mini"
	"rootstock/munch"
	"rootstock/nfa"
	"rootstock/regs"
)

// times is as many of one thing.
func times[T any](n int, x T) []T { return slices.Repeat([]T{x}, n) }

// classes are as many classes, of which each but the first one has the next one of some bytes; all others are of the first one.
func classes(bytes ...string) [256]uint8 {
	var class [256]uint8
	for i, s := range bytes {
		for j := range len(s) {
			class[s[j]] = uint8(i + 1)
		}
	}
	return class
}

// flat is an automaton of as many states and classes, which leads nowhere.
func flat(states, classes int) api.Dfa {
	d := api.Dfa{Rule: times(states, -1)}
	for range states {
		d.Next = append(d.Next, times(classes, -1))
	}
	return d
}

// copied is an automaton in memory of its own.
func copied(d api.Dfa) api.Dfa {
	c := api.Dfa{Start: d.Start, Class: d.Class, Rule: slices.Clone(d.Rule)}
	for _, row := range d.Next {
		c.Next = append(c.Next, slices.Clone(row))
	}
	return c
}

// changed is an automaton with something else in it.
func changed(d api.Dfa, change func(d *api.Dfa)) api.Dfa {
	c := copied(d)
	change(&c)
	return c
}

// found is what At tells, which must be no error.
func found(t *testing.T, d api.Dfa, text string, at int) api.Munch {
	t.Helper()
	m, e := munch.At(d, text, at)
	if e != api.OK {
		t.Fatalf("%v, %.20q at %d: %v", d, text, at, e)
	}
	return m
}

// place is a place of a text, and what an automaton is to tell there.
type place struct {
	text            string
	at              int
	rule, len, look int
}

// tells holds that an automaton tells at places what is to be told there.
func tells(t *testing.T, what string, d api.Dfa, places ...place) {
	t.Helper()
	for _, x := range places {
		want := api.Munch{Rule: x.rule, Len: x.len, Look: x.look}
		if m := found(t, d, x.text, x.at); m != want {
			t.Errorf("%q: %q at %d: %v, not %v", what, x.text, x.at, m, want)
		}
	}
}

// ruled is the least automaton of patterns that are written.
func ruled(t *testing.T, patterns ...string) api.Dfa {
	t.Helper()
	var l []api.Rule
	for _, s := range patterns {
		l = append(l, api.Rule{Reg: parsed(t, s)})
	}
	n, e := nfa.Of(l)
	if e != api.OK {
		t.Fatalf("%q: %v", patterns, e)
	}
	d, e := dfa.Of(n)
	if e != api.OK {
		t.Fatalf("%q: %v", patterns, e)
	}
	d, e = mini.Least(d)
	if e != api.OK {
		t.Fatalf("%q: %v", patterns, e)
	}
	return d
}

// parsed is a pattern that is written.
func parsed(t *testing.T, pattern string) api.Reg {
	t.Helper()
	r, _, e := regs.Parse(pattern)
	if e != api.OK {
		t.Fatalf("%q: %v", pattern, e)
	}
	return r
}

// ran is the state to which an automaton leads from its Start, or -1.
func ran(t *testing.T, d api.Dfa, text string) int {
	t.Helper()
	s, e := dfa.Run(d, d.Start, text)
	if e != api.OK {
		t.Fatalf("%v, %.20q: %v", d, text, e)
	}
	return s
}

// goesOn tells whether an automaton leads from a state by some class to a state.
func goesOn(d api.Dfa, state int) bool {
	is := false
	for _, to := range d.Next[state] {
		is = is || to >= 0
	}
	return is
}

// byTheWords is what the chapter's words say of what is left: each of its beginnings is led anew, from the automaton's Start on.
func byTheWords(t *testing.T, d api.Dfa, left string) api.Munch {
	t.Helper()
	m := api.Munch{Rule: -1}
	for n := 1; n <= len(left); n++ {
		rule, e := dfa.Rule(d, left[:n])
		if e != api.OK {
			t.Fatalf("%v, %.20q: %v", d, left, e)
		}
		if rule >= 0 {
			m.Rule, m.Len = rule, n
		}
	}
	for n := 1; n <= len(left); n++ {
		m.Look = n
		s := ran(t, d, left[:n])
		if s < 0 || !goesOn(d, s) {
			return m
		}
	}
	m.Look++
	return m
}

// texts are all texts of at most n of some bytes, the short ones first.
func texts(n int, bytes string) []string {
	l := []string{""}
	for from := 0; n > 0; n-- {
		to := len(l)
		for ; from < to; from++ {
			for i := range len(bytes) {
				l = append(l, l[from]+bytes[i:i+1])
			}
		}
	}
	return l
}

// dice are numbers, the same ones in each run.
type dice uint32

func (d *dice) roll(n int) int {
	*d = *d*1664525 + 1013904223
	return int(*d>>8) % n
}

// text is a mixed one of some bytes.
func (d *dice) text(n int, bytes string) string {
	b := make([]byte, n)
	for i := range b {
		b[i] = bytes[d.roll(len(bytes))]
	}
	return string(b)
}

// below is a number below 0.
func (d *dice) below() int {
	return []int{-1, -2, -48, -2049, math.MinInt}[d.roll(5)]
}

// plain is a mixed automaton, in which more or less of all leads somewhere, with classes that no byte has, states that don't go on, and rules at any states, Start too.
func (d *dice) plain() api.Dfa {
	states, places := 1+d.roll(7), 1+d.roll(4)
	out := api.Dfa{Start: d.roll(states)}
	for b := range out.Class {
		out.Class[b] = uint8(d.roll(places))
	}
	if d.roll(2) == 0 {
		out.Class = classes(d.text(2, "ab\xff"))
		places = max(places, 2)
	}
	blind, rules := d.roll(4), 1+d.roll(4)
	for range states {
		row := times(places, d.below())
		if d.roll(4) > 0 {
			for c := range row {
				if d.roll(4) >= blind {
					row[c] = d.roll(states)
				}
			}
		}
		out.Next = append(out.Next, row)
		r := d.below()
		if d.roll(4) < rules {
			r = d.roll(48)
		}
		out.Rule = append(out.Rule, r)
	}
	return out
}
