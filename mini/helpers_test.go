package mini_test

import (
	"math"
	"slices"
	"testing"

	"rootstock/api"
	"rootstock/dfa"
	"rootstock/mini"
	"rootstock/nfa"
	"rootstock/regs"
)

// times is as many of one thing.
func times[T any](n int, x T) []T { return slices.Repeat([]T{x}, n) }

// classes are as many classes, of which each but the first one has the next one of some bytes; all others are of the first one.
func classes(bytes ...string) [256]uint8 {
	var class [256]uint8
	for i, s := range bytes {
		for j := range len(s) {
			class[s[j]] = uint8(i + 1)
		}
	}
	return class
}

// each are as many classes as may be: each byte is of its own.
func each() [256]uint8 {
	var class [256]uint8
	for i := range class {
		class[i] = uint8(i)
	}
	return class
}

// rows are as many rows, each with as many places, which lead nowhere.
func rows(states, classes int) [][]int {
	var l [][]int
	for range states {
		l = append(l, times(classes, -1))
	}
	return l
}

// flat is an automaton of as many states and classes, which leads nowhere.
func flat(states, classes int) api.Dfa {
	return api.Dfa{Next: rows(states, classes), Rule: times(states, -1)}
}

// copied is an automaton in memory of its own.
func copied(d api.Dfa) api.Dfa {
	c := api.Dfa{Start: d.Start, Class: d.Class, Rule: slices.Clone(d.Rule)}
	for _, row := range d.Next {
		c.Next = append(c.Next, slices.Clone(row))
	}
	return c
}

// changed is an automaton with something else in it.
func changed(d api.Dfa, change func(d *api.Dfa)) api.Dfa {
	c := copied(d)
	change(&c)
	return c
}

// least is what Least tells, which must be no error, and an automaton that may be.
func least(t *testing.T, d api.Dfa) api.Dfa {
	t.Helper()
	l, e := mini.Least(d)
	if e != api.OK {
		t.Fatalf("%d states: %v", len(d.Next), e)
	}
	if f := dfa.Check(l); f != api.OK {
		t.Fatalf("%v: %v", l, f)
	}
	return l
}

// same is what Same tells, which must be no error.
func same(t *testing.T, a, b api.Dfa) bool {
	t.Helper()
	is, e := mini.Same(a, b)
	if e != api.OK {
		t.Fatalf("%d and %d states: %v", len(a.Next), len(b.Next), e)
	}
	return is
}

// ruled is the automaton of patterns that are written.
func ruled(t *testing.T, patterns ...string) api.Dfa {
	t.Helper()
	var l []api.Rule
	for _, s := range patterns {
		r, _, e := regs.Parse(s)
		if e != api.OK {
			t.Fatalf("%q: %v", s, e)
		}
		l = append(l, api.Rule{Reg: r})
	}
	n, e := nfa.Of(l)
	if e != api.OK {
		t.Fatalf("%q: %v", patterns, e)
	}
	d, e := dfa.Of(n)
	if e != api.OK {
		t.Fatalf("%q: %v", patterns, e)
	}
	return d
}

// rule is what an automaton tells of a text, which must be no error.
func rule(t *testing.T, d api.Dfa, text string) int {
	t.Helper()
	r, e := dfa.Rule(d, text)
	if e != api.OK {
		t.Fatalf("%v, %.20q: %v", d, text, e)
	}
	return r
}

// texts are all texts of at most n of some bytes, the short ones first.
func texts(n int, bytes string) []string {
	l := []string{""}
	for from := 0; n > 0; n-- {
		to := len(l)
		for ; from < to; from++ {
			for i := range len(bytes) {
				l = append(l, l[from]+bytes[i:i+1])
			}
		}
	}
	return l
}

// dice are numbers, the same ones in each run.
type dice uint32

func (d *dice) roll(n int) int {
	*d = *d*1664525 + 1013904223
	return int(*d>>8) % n
}

// text is a mixed one of some bytes.
func (d *dice) text(n int, bytes string) string {
	b := make([]byte, n)
	for i := range b {
		b[i] = bytes[d.roll(len(bytes))]
	}
	return string(b)
}

// below is a number below 0.
func (d *dice) below() int {
	return []int{-1, -2, -48, -2049, math.MinInt}[d.roll(5)]
}

// few is a mixed automaton of few states, of which bytes have some classes, but not always all.
func (d *dice) few() api.Dfa {
	states, places := 1+d.roll(7), 1+d.roll(5)
	out := api.Dfa{Start: d.roll(states)}
	other := uint8(d.roll(places))
	for i := range out.Class {
		out.Class[i] = other
	}
	for range d.roll(6) {
		out.Class["ab\x00\xffc"[d.roll(5)]] = uint8(d.roll(places))
	}
	rules, nowhere := 1+d.roll(3), d.roll(4)
	for range states {
		var row []int
		for range places {
			to := d.roll(states)
			if d.roll(4) < nowhere {
				to = d.below()
			}
			row = append(row, to)
		}
		out.Next = append(out.Next, row)
		r := d.below()
		if d.roll(2) == 0 {
			r = d.roll(rules) * 47 / 2
		}
		out.Rule = append(out.Rule, r)
	}
	return out
}

// blown is an automaton that tells the same: of each state there are some more, the ways to it lead to any of them; of each class, too, and a byte is of any of these; there are states that lead nowhere, states that are not come to, and classes that no byte has; and all stand anywhere.
func (d *dice) blown(p api.Dfa) api.Dfa {
	states, stateCopies := d.more(len(p.Next)+2, 3)
	classes, classCopies := d.more(len(p.Next[0])+1, 2)
	// What is numbered behind p's own states: one from which no rule is come to, one that is not come to.
	dead := len(p.Next)
	out := api.Dfa{Next: make([][]int, len(states)), Rule: make([]int, len(states))}
	out.Start = d.of(stateCopies[p.Start])
	for b, c := range p.Class {
		out.Class[b] = uint8(d.of(classCopies[c]))
	}
	for at, state := range states {
		out.Rule[at] = d.below()
		switch {
		case state < dead && p.Rule[state] >= 0:
			out.Rule[at] = p.Rule[state]
		case state > dead:
			out.Rule[at] = d.roll(48)
		}
		for _, class := range classes {
			to := d.roll(len(states))
			if state <= dead && class < len(p.Next[0]) {
				to = d.below()
				if state < dead && p.Next[state][class] >= 0 {
					to = d.of(stateCopies[p.Next[state][class]])
				} else if d.roll(2) == 0 {
					to = d.of(stateCopies[dead])
				}
			}
			out.Next[at] = append(out.Next[at], to)
		}
	}
	return out
}

// more are some of each of n numbers, mixed, and of each number the places where it stands.
func (d *dice) more(n, most int) (all []int, places [][]int) {
	for i := range n {
		for range 1 + d.roll(most) {
			all = slices.Insert(all, d.roll(len(all)+1), i)
		}
	}
	places = make([][]int, n)
	for at, i := range all {
		places[i] = append(places[i], at)
	}
	return all, places
}

// of is one of some numbers.
func (d *dice) of(l []int) int { return l[d.roll(len(l))] }

// words are what the chapter's words say of an automaton: which states are told apart by some text (behind the last state stands nowhere), and which ones are live.
type words struct {
	d     api.Dfa
	apart [][]bool
	live  []bool
}

// led is where a byte leads; from nowhere, nowhere.
func (w words) led(state int, b byte) int {
	if state == len(w.d.Next) {
		return state
	}
	if to := w.d.Next[state][w.d.Class[b]]; to >= 0 {
		return to
	}
	return len(w.d.Next)
}

// rule is the one that ends at a state, or -1.
func (w words) rule(state int) int {
	if state == len(w.d.Next) {
		return -1
	}
	return max(-1, w.d.Rule[state])
}

func wordsOf(d api.Dfa) words {
	w := words{d: d}
	n := len(d.Next) + 1
	for i := range n {
		w.live = append(w.live, w.rule(i) >= 0)
		w.apart = append(w.apart, make([]bool, n))
		for j := range n {
			w.apart[i][j] = w.rule(i) != w.rule(j)
		}
	}
	// A text that tells two apart, or leads to a rule, begins with a byte; behind it a shorter one does.
	for more := true; more; {
		more = false
		for i := range n {
			for b := range 256 {
				to := w.led(i, byte(b))
				if w.live[to] && !w.live[i] {
					w.live[i], more = true, true
				}
				for j := range n {
					if w.apart[to][w.led(j, byte(b))] && !w.apart[i][j] {
						w.apart[i][j], more = true, true
					}
				}
			}
		}
	}
	return w
}

// least is the least automaton by the chapter's words.
func (w words) least() api.Dfa {
	states := []int{w.d.Start}
	var rows [][256]int
	out := api.Dfa{}
	for at := 0; at < len(states); at++ {
		var row [256]int
		for b := range 256 {
			to := w.led(states[at], byte(b))
			row[b] = slices.IndexFunc(states, func(s int) bool { return !w.apart[s][to] })
			if !w.live[to] {
				row[b] = -1
			} else if row[b] < 0 {
				row[b] = len(states)
				states = append(states, to)
			}
		}
		rows = append(rows, row)
		out.Rule = append(out.Rule, w.rule(states[at]))
	}
	out.Class, out.Next = classed(rows)
	return out
}

// classed puts bytes of one class that lead to the same from each row.
func classed(rows [][256]int) (class [256]uint8, next [][]int) {
	next = make([][]int, len(rows))
	var firsts []int
	for b := range 256 {
		c := slices.IndexFunc(firsts, func(first int) bool {
			return !slices.ContainsFunc(rows, func(row [256]int) bool { return row[first] != row[b] })
		})
		if c < 0 {
			c = len(firsts)
			firsts = append(firsts, b)
			for i, row := range rows {
				next[i] = append(next[i], row[b])
			}
		}
		class[b] = uint8(c)
	}
	return class, next
}

// tellSame tells by the chapter's words whether two automata tell the same of each text: all pairs of states to which one text leads are looked at.
func tellSame(a, b api.Dfa) bool {
	v, w := words{d: a}, words{d: b}
	pairs := [][2]int{{a.Start, b.Start}}
	for at := 0; at < len(pairs); at++ {
		p := pairs[at]
		if v.rule(p[0]) != w.rule(p[1]) {
			return false
		}
		for x := range 256 {
			to := [2]int{v.led(p[0], byte(x)), w.led(p[1], byte(x))}
			if !slices.Contains(pairs, to) {
				pairs = append(pairs, to)
			}
		}
	}
	return true
}
