package nfa_test

import (
	"math"
	"slices"
	"testing"

	"rootstock/api"
	"rootstock/nfa"
	"rootstock/regs"
	"rootstock/sets"
)

var (
	none  = api.Reg{Kind: api.RegNone}
	empty = api.Reg{Kind: api.RegEmpty}
	whole = api.Reg{Kind: api.RegSet, Set: sets.Not(api.Set{})}
)

// of is a pattern of a text's bytes, each of them alone.
func of(bytes string) api.Reg { return api.Reg{Kind: api.RegSet, Set: sets.Of(bytes)} }

// put is a pattern of parts.
func put(kind int, parts ...api.Reg) api.Reg { return api.Reg{Kind: kind, Parts: parts} }

func cat(parts ...api.Reg) api.Reg { return put(api.RegCat, parts...) }
func alt(parts ...api.Reg) api.Reg { return put(api.RegAlt, parts...) }
func star(part api.Reg) api.Reg    { return put(api.RegStar, part) }
func plus(part api.Reg) api.Reg    { return put(api.RegPlus, part) }
func maybe(part api.Reg) api.Reg   { return put(api.RegMaybe, part) }

// down is a pattern that is so many deeper than another one.
func down(n, kind int, r api.Reg) api.Reg {
	for range n {
		r = put(kind, r)
	}
	return r
}

// times is as many of one thing.
func times[T any](n int, x T) []T { return slices.Repeat([]T{x}, n) }

// list are rules of patterns, whose kinds are mixed, as these are not looked at.
func list(patterns ...api.Reg) []api.Rule {
	var l []api.Rule
	for i, r := range patterns {
		kind := []int{0, -1, api.KBad, math.MaxInt, math.MinInt}[i%5]
		l = append(l, api.Rule{Kind: kind, Reg: r})
	}
	return l
}

// read are rules of patterns that are written.
func read(t *testing.T, patterns ...string) []api.Rule {
	t.Helper()
	var l []api.Reg
	for _, s := range patterns {
		r, _, e := regs.Parse(s)
		if e != api.OK {
			t.Fatalf("%q: %v", s, e)
		}
		l = append(l, r)
	}
	return list(l...)
}

// built is the automaton of rules, which must be no error, and one that may be.
func built(t *testing.T, rules []api.Rule) api.Nfa {
	t.Helper()
	n, e := nfa.Of(rules)
	if e != api.OK {
		t.Fatalf("%d rules: %v", len(rules), e)
	}
	if f := nfa.Check(n); f != api.OK || len(n.Steps) > 4095 {
		t.Fatalf("%d rules: %v, %d states", len(rules), f, len(n.Steps))
	}
	return n
}

// accepts are the rules that Accepts tells, which must be no error.
func accepts(t *testing.T, n api.Nfa, text string) []int {
	t.Helper()
	l, e := nfa.Accepts(n, text)
	if e != api.OK {
		t.Fatalf("%.20q: %v", text, e)
	}
	return l
}

// matching are the numbers of the rules whose patterns match a text.
func matching(t *testing.T, rules []api.Rule, text string) []int {
	t.Helper()
	var l []int
	for i, r := range rules {
		is, e := regs.Matches(r.Reg, text)
		if e != api.OK {
			t.Fatalf("rule %d: %v", i, e)
		}
		if is {
			l = append(l, i)
		}
	}
	return l
}

// same holds that the automaton of rules accepts some texts by those whose patterns match them.
func same(t *testing.T, rules []api.Rule, texts ...string) {
	t.Helper()
	n := built(t, rules)
	for _, text := range texts {
		if l, want := accepts(t, n, text), matching(t, rules, text); !slices.Equal(l, want) {
			t.Errorf("%v, %.40q: %v, not %v", told(rules), text, l, want)
		}
	}
}

// told are the texts of rules' patterns.
func told(rules []api.Rule) []string {
	var l []string
	for _, r := range rules {
		s, _ := regs.Print(r.Reg)
		l = append(l, s)
	}
	return l
}

// texts are all texts of at most n of some bytes, the short ones first.
func texts(n int, bytes string) []string {
	l := []string{""}
	for from := 0; n > 0; n-- {
		to := len(l)
		for ; from < to; from++ {
			for i := range len(bytes) {
				l = append(l, l[from]+bytes[i:i+1])
			}
		}
	}
	return l
}

// above are all patterns of one or two of some as parts, and those themselves.
func above(l []api.Reg) []api.Reg {
	m := slices.Clone(l)
	for _, a := range l {
		m = append(m, cat(a), alt(a), star(a), plus(a), maybe(a))
		for _, b := range l {
			m = append(m, cat(a, b), alt(a, b))
		}
	}
	return m
}

// small are patterns of all kinds, and of all kinds within all kinds, of which the shortest text has at most two bytes.
func small() []api.Reg {
	return above([]api.Reg{none, empty, of(""), of("a"), of("ab")})
}

// dice are numbers, the same ones in each run.
type dice uint32

func (d *dice) roll(n int) int {
	*d = *d*1664525 + 1013904223
	return int(*d>>8) % n
}

// pattern is a mixed one, at most so deep, which matches something.
func (d *dice) pattern(deep int) api.Reg {
	if deep == 1 || d.roll(5) == 0 {
		l := []api.Reg{of("a"), of("b"), of("ab"), of("c"), of("a\n"), whole, empty, of("a"), of("b"), of("ac")}
		return l[d.roll(len(l))]
	}
	kind := api.RegCat + d.roll(api.RegMaybe-api.RegCat+1)
	if kind > api.RegAlt {
		return put(kind, d.pattern(deep-1))
	}
	r := put(kind)
	for range 1 + d.roll(4) {
		r.Parts = append(r.Parts, d.pattern(deep-1))
	}
	return r
}

// rules are some mixed ones.
func (d *dice) rules(most, deep int) []api.Rule {
	var l []api.Reg
	for range d.roll(most + 1) {
		l = append(l, d.pattern(1+d.roll(deep)))
	}
	return list(l...)
}

// text is a mixed one of some bytes.
func (d *dice) text(n int, bytes string) string {
	b := make([]byte, n)
	for i := range b {
		b[i] = bytes[d.roll(len(bytes))]
	}
	return string(b)
}

// grown is a text that a pattern matches, if it matches any.
func (d *dice) grown(r api.Reg, most int) string {
	out := ""
	switch r.Kind {
	case api.RegSet:
		m := sets.Members(r.Set)
		i := d.roll(len(m))
		return m[i : i+1]
	case api.RegCat:
		for _, p := range r.Parts {
			out += d.grown(p, most/len(r.Parts))
		}
	case api.RegAlt:
		return d.grown(r.Parts[d.roll(len(r.Parts))], most)
	case api.RegStar, api.RegPlus:
		out = d.grown(r.Parts[0], most/4)
		for i := 0; i < 50 && len(out) < most; i++ {
			out += d.grown(r.Parts[0], most/4)
		}
	case api.RegMaybe:
		return d.grown(r.Parts[0], most)
	}
	return out
}

// automaton is a mixed one that may be.
func (d *dice) automaton() api.Nfa {
	count := 1 + d.roll(8)
	n := api.Nfa{Start: d.roll(count)}
	for range count {
		bytes := []string{"", "a", "b", "ab", "ab\xff", "a", "b", "ab", "a\x00"}[d.roll(9)]
		s := api.Step{Set: sets.Of(bytes), To: d.roll(count+2) - 2, Rule: d.roll(12) - 6}
		if d.roll(5) == 0 {
			s.Rule = 47
		}
		for range max(0, d.roll(6)-2) {
			s.Free = append(s.Free, d.roll(count))
		}
		n.Steps = append(n.Steps, s)
	}
	return n
}

// free tells from which states free ways lead to which ones, one behind the other, none too.
func free(n api.Nfa) [][]bool {
	leads := make([][]bool, len(n.Steps))
	for i, s := range n.Steps {
		leads[i] = make([]bool, len(n.Steps))
		leads[i][i] = true
		for _, to := range s.Free {
			leads[i][to] = true
		}
	}
	for by := range leads {
		for from := range leads {
			for to := range leads {
				leads[from][to] = leads[from][to] || leads[from][by] && leads[by][to]
			}
		}
	}
	return leads
}

// led tells to which states a text leads from the start, by the chapter's words.
func led(n api.Nfa, free [][]bool, text string) []bool {
	if text == "" {
		return free[n.Start]
	}
	out := make([]bool, len(n.Steps))
	ahead, last := text[:len(text)-1], text[len(text)-1]
	for state, is := range led(n, free, ahead) {
		to := n.Steps[state].To
		if !is || to < 0 || !sets.Has(n.Steps[state].Set, last) {
			continue
		}
		for i := range out {
			out[i] = out[i] || free[to][i]
		}
	}
	return out
}

// accepted are the rules by which an automaton accepts a text, by the chapter's words.
func accepted(n api.Nfa, free [][]bool, text string) []int {
	var l []int
	for state, is := range led(n, free, text) {
		if rule := n.Steps[state].Rule; is && rule >= 0 {
			l = append(l, rule)
		}
	}
	slices.Sort(l)
	return slices.Compact(l)
}

// copied is an automaton in memory of its own.
func copied(n api.Nfa) api.Nfa {
	c := api.Nfa{Start: n.Start, Steps: slices.Clone(n.Steps)}
	for i := range c.Steps {
		c.Steps[i].Free = slices.Clone(c.Steps[i].Free)
	}
	return c
}

// copiedReg is a pattern in memory of its own.
func copiedReg(r api.Reg) api.Reg {
	c := api.Reg{Kind: r.Kind, Set: r.Set}
	for _, p := range r.Parts {
		c.Parts = append(c.Parts, copiedReg(p))
	}
	return c
}

// copiedRules are rules in memory of their own.
func copiedRules(rules []api.Rule) []api.Rule {
	var l []api.Rule
	for _, r := range rules {
		l = append(l, api.Rule{Kind: r.Kind, Reg: copiedReg(r.Reg)})
	}
	return l
}
