package dfa_test

import (
	"slices"
	"strings"
	"testing"

	"rootstock/api"
	"rootstock/dfa"
	"rootstock/nfa"
	"rootstock/regs"
	"rootstock/sets"
)

// all are all bytes.
var all = sets.Not(api.Set{})

// dead is a state without ways and rule.
var dead = api.Step{To: -1, Rule: -1}

// from is an automaton with choice of some states.
func from(start int, steps ...api.Step) api.Nfa { return api.Nfa{Start: start, Steps: steps} }

// by is a state with a way by some bytes.
func by(bytes string, to int, free ...int) api.Step {
	return api.Step{Set: sets.Of(bytes), To: to, Free: free, Rule: -1}
}

// end is a state where a rule ends.
func end(rule int, free ...int) api.Step { return api.Step{To: -1, Free: free, Rule: rule} }

// only is a state with free ways alone.
func only(free ...int) api.Step { return api.Step{To: -1, Free: free, Rule: -1} }

// times is as many of one thing.
func times[T any](n int, x T) []T { return slices.Repeat([]T{x}, n) }

// classes are as many classes, of which each but the first one has the next one of some bytes; all others are of the first one.
func classes(bytes ...string) [256]uint8 {
	var class [256]uint8
	for i, s := range bytes {
		for j := range len(s) {
			class[s[j]] = uint8(i + 1)
		}
	}
	return class
}

// each are as many classes as may be: each byte is of its own.
func each() [256]uint8 {
	var class [256]uint8
	for i := range class {
		class[i] = uint8(i)
	}
	return class
}

// built is the automaton without choice of one with choice, which must be no error, and one that may be.
func built(t *testing.T, n api.Nfa) api.Dfa {
	t.Helper()
	d, e := dfa.Of(n)
	if e != api.OK {
		t.Fatalf("%d states: %v", len(n.Steps), e)
	}
	if f := dfa.Check(d); f != api.OK {
		t.Fatalf("%v: %v", d, f)
	}
	return d
}

// ruled is the automaton with choice of patterns that are written.
func ruled(t *testing.T, patterns ...string) api.Nfa {
	t.Helper()
	var l []api.Rule
	for _, s := range patterns {
		r, _, e := regs.Parse(s)
		if e != api.OK {
			t.Fatalf("%q: %v", s, e)
		}
		l = append(l, api.Rule{Reg: r})
	}
	n, e := nfa.Of(l)
	if e != api.OK {
		t.Fatalf("%q: %v", patterns, e)
	}
	return n
}

// ran is the state that Run tells, which must be no error.
func ran(t *testing.T, d api.Dfa, from int, text string) int {
	t.Helper()
	s, e := dfa.Run(d, from, text)
	if e != api.OK {
		t.Fatalf("%v, from %d, %.20q: %v", d, from, text, e)
	}
	return s
}

// rule is what Rule tells, which must be no error.
func rule(t *testing.T, d api.Dfa, text string) int {
	t.Helper()
	r, e := dfa.Rule(d, text)
	if e != api.OK {
		t.Fatalf("%v, %.20q: %v", d, text, e)
	}
	return r
}

// texts are all texts of at most n of some bytes, the short ones first.
func texts(n int, bytes string) []string {
	l := []string{""}
	for from := 0; n > 0; n-- {
		to := len(l)
		for ; from < to; from++ {
			for i := range len(bytes) {
				l = append(l, l[from]+bytes[i:i+1])
			}
		}
	}
	return l
}

// dice are numbers, the same ones in each run.
type dice uint32

func (d *dice) roll(n int) int {
	*d = *d*1664525 + 1013904223
	return int(*d>>8) % n
}

// text is a mixed one of some bytes.
func (d *dice) text(n int, bytes string) string {
	b := make([]byte, n)
	for i := range b {
		b[i] = bytes[d.roll(len(bytes))]
	}
	return string(b)
}

// choosy is a mixed automaton with choice that may be.
func (d *dice) choosy() api.Nfa {
	count := 1 + d.roll(9)
	n := api.Nfa{Start: d.roll(count)}
	for range count {
		bytes := []string{"", "a", "b", "ab", "ab\xff", "a", "b", "abc", "a\x00"}[d.roll(9)]
		s := api.Step{Set: sets.Of(bytes), To: d.roll(count+1) - 1, Rule: d.roll(12) - 7}
		if d.roll(12) == 0 {
			s.Set = sets.Not(s.Set)
		}
		if d.roll(8) == 0 {
			s.Rule = 47
		}
		for range max(0, d.roll(6)-2) {
			s.Free = append(s.Free, d.roll(count))
		}
		n.Steps = append(n.Steps, s)
	}
	return n
}

// plain is a mixed automaton without choice that may be.
func (d *dice) plain() api.Dfa {
	states, classes := 1+d.roll(6), 1+d.roll(4)
	out := api.Dfa{Start: d.roll(states)}
	for i := range out.Class {
		out.Class[i] = uint8(d.roll(classes))
	}
	for range states {
		var row []int
		for range classes {
			row = append(row, d.roll(states+2)-2)
		}
		out.Next = append(out.Next, row)
		out.Rule = append(out.Rule, d.roll(12)-6)
	}
	return out
}

// words are what the chapter's words say of an automaton with choice: from which states free ways lead to which ones, one behind the other, none too; and from which ones some text leads to where a rule ends.
type words struct {
	n    api.Nfa
	free [][]bool
	live []bool
}

func wordsOf(n api.Nfa) words {
	w := words{n: n, live: make([]bool, len(n.Steps))}
	for i, s := range n.Steps {
		leads := make([]bool, len(n.Steps))
		leads[i] = true
		for _, to := range s.Free {
			leads[to] = true
		}
		w.free = append(w.free, leads)
	}
	for by := range w.free {
		for from := range w.free {
			for to := range w.free {
				w.free[from][to] = w.free[from][to] || w.free[from][by] && w.free[by][to]
			}
		}
	}
	// A text that leads there needs no more bytes than there are states.
	for range n.Steps {
		for from, s := range n.Steps {
			w.live[from] = w.live[from] || s.Rule >= 0 || s.To >= 0 && sets.Count(s.Set) > 0 && w.live[s.To]
			for to, is := range w.free[from] {
				w.live[from] = w.live[from] || is && w.live[to]
			}
		}
	}
	return w
}

// group is a set of states: one sign for each, 1 if it is in it.
type group string

// first is the set of the empty text.
func (w words) first() group {
	out := make([]byte, len(w.n.Steps))
	for i, is := range w.free[w.n.Start] {
		out[i] = "01"[sign(is)]
	}
	return group(out)
}

func sign(is bool) int {
	if is {
		return 1
	}
	return 0
}

// led is the set to which a byte leads from another one.
func (w words) led(g group, b byte) group {
	out := []byte(strings.Repeat("0", len(g)))
	for i, s := range w.n.Steps {
		if g[i] == '0' || s.To < 0 || !sets.Has(s.Set, b) {
			continue
		}
		for to, is := range w.free[s.To] {
			if is {
				out[to] = '1'
			}
		}
	}
	return group(out)
}

func (w words) alive(g group) bool {
	for i, is := range w.live {
		if is && g[i] == '1' {
			return true
		}
	}
	return false
}

// rule is the least rule that ends in a set.
func (w words) rule(g group) int {
	least := -1
	for i, s := range w.n.Steps {
		if g[i] == '1' && s.Rule >= 0 && (least < 0 || s.Rule < least) {
			least = s.Rule
		}
	}
	return least
}

// automaton is the one of the sets, byte by byte.
func (w words) automaton() api.Dfa {
	groups := []group{w.first()}
	var rows [][256]int
	for at := 0; at < len(groups); at++ {
		var row [256]int
		for b := range row {
			to := w.led(groups[at], byte(b))
			row[b] = slices.Index(groups, to)
			if !w.alive(to) {
				row[b] = -1
			} else if row[b] < 0 {
				row[b] = len(groups)
				groups = append(groups, to)
			}
		}
		rows = append(rows, row)
	}
	d := classed(rows)
	for _, g := range groups {
		d.Rule = append(d.Rule, w.rule(g))
	}
	return d
}

// classed puts bytes of one class that lead to the same from each row.
func classed(rows [][256]int) api.Dfa {
	d := api.Dfa{Next: make([][]int, len(rows))}
	var firsts []int
	for b := range 256 {
		c := slices.IndexFunc(firsts, func(first int) bool {
			return !slices.ContainsFunc(rows, func(row [256]int) bool { return row[first] != row[b] })
		})
		if c < 0 {
			c = len(firsts)
			firsts = append(firsts, b)
			for i, row := range rows {
				d.Next[i] = append(d.Next[i], row[b])
			}
		}
		d.Class[b] = uint8(c)
	}
	return d
}

// copied is an automaton with choice in memory of its own.
func copied(n api.Nfa) api.Nfa {
	c := api.Nfa{Start: n.Start, Steps: slices.Clone(n.Steps)}
	for i := range c.Steps {
		c.Steps[i].Free = slices.Clone(c.Steps[i].Free)
	}
	return c
}

// copiedPlain is an automaton without choice in memory of its own.
func copiedPlain(d api.Dfa) api.Dfa {
	c := api.Dfa{Start: d.Start, Class: d.Class, Rule: slices.Clone(d.Rule)}
	for _, row := range d.Next {
		c.Next = append(c.Next, slices.Clone(row))
	}
	return c
}
