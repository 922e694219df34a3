package nfa_test

import (
	"slices"
	"strings"
	"testing"

	"rootstock/api"
)

func TestOneRule(t *testing.T) {
	short := texts(3, "ab")
	for i, r := range above(small()) {
		// Which ones match nothing is told elsewhere.
		if l := list(r); slices.ContainsFunc(short, func(text string) bool { return len(matching(t, l, text)) > 0 }) {
			same(t, l, short[:3+i%5*3]...)
		}
	}
	d := dice(3)
	for range 1500 {
		r := d.pattern(1 + d.roll(6))
		text := d.grown(r, 12)
		same(t, list(r), "", "a", text, text+"a", "b"+text, d.text(d.roll(9), "abc\n"))
	}
}

func TestSeveralRules(t *testing.T) {
	d := dice(4)
	told := map[int]int{}
	for range 600 {
		rules := d.rules(6, 5)
		l := append(texts(2, "ab"), d.text(d.roll(9), "abc\n"))
		for _, r := range rules {
			text := d.grown(r.Reg, 30)
			i := d.roll(len(text) + 1)
			l = append(l, text, text[:i]+"b"+text[i:], text[:i])
			told[len(matching(t, rules, text))]++
		}
		same(t, rules, l...)
	}
	if told[1] < 100 || told[2] < 100 || told[3] < 50 {
		t.Errorf("%v", told)
	}
}

func TestLongTexts(t *testing.T) {
	d := dice(5)
	long := 0
	for range 100 {
		rules := list(d.pattern(5), d.pattern(6), star(d.pattern(4)), star(cat(d.pattern(3), of("a"))))
		text := d.grown(rules[2].Reg, 300) + d.grown(rules[3].Reg, 300)
		same(t, rules, text, text+"c", d.grown(rules[2].Reg, 500), d.grown(rules[3].Reg, 500))
		if len(text) > 100 {
			long++
		}
	}
	if long < 50 {
		t.Errorf("%d long texts", long)
	}
	full := strings.Repeat("ab", api.MaxText/2)
	same(t, read(t, "(ab)*", "[ab]*", "(a|b)*a", "(ab?)+", "[^]*b", "(abab)*(ab)?"), full, full[1:], full[2:], full[:len(full)-1], full[:len(full)-1]+"c")
	same(t, list(star(alt(times(509, of("a"))...)), star(cat(times(300, of("ab"))...)), down(15, api.RegStar, of("ab")), plus(cat(times(15, maybe(of("ab")))...))), full, full[2:], strings.Repeat("a", api.MaxText))
}

func TestRulesAndOthersBehindThem(t *testing.T) {
	d := dice(8)
	for range 400 {
		first, others := d.rules(4, 4), d.rules(4, 4)
		whole := append(slices.Clone(first), others...)
		a, b, n := built(t, first), built(t, others), built(t, whole)
		l := texts(3, "ab")
		for _, r := range whole {
			l = append(l, d.grown(r.Reg, 9))
		}
		for _, text := range l {
			want := accepts(t, a, text)
			for _, rule := range accepts(t, b, text) {
				want = append(want, rule+len(first))
			}
			if l := accepts(t, n, text); !slices.Equal(l, want) {
				t.Errorf("%v and %v, %q: %v, not %v", told(first), told(others), text, l, want)
			}
		}
	}
}

// renumbered is an automaton whose state i has another number.
func renumbered(n api.Nfa, number []int) api.Nfa {
	m := api.Nfa{Start: number[n.Start], Steps: make([]api.Step, len(n.Steps))}
	for i, s := range n.Steps {
		if s.To >= 0 {
			s.To = number[s.To]
		}
		s.Free = slices.Clone(s.Free)
		for j, to := range s.Free {
			s.Free[j] = number[to]
		}
		slices.Reverse(s.Free)
		m.Steps[number[i]] = s
	}
	return m
}

func TestNumbersOfStatesMakeNoDifference(t *testing.T) {
	d := dice(9)
	short := texts(3, "ab")
	for i := range 600 {
		n := d.automaton()
		if i%2 == 0 {
			n = built(t, d.rules(4, 5))
		}
		var number []int
		for i := range n.Steps {
			number = slices.Insert(number, d.roll(i+1), i)
		}
		m := renumbered(n, number)
		for _, text := range append(short, d.text(d.roll(9), "abc")) {
			if l, want := accepts(t, m, text), accepts(t, n, text); !slices.Equal(l, want) {
				t.Errorf("%v, %v, %q: %v, not %v", n, number, text, l, want)
			}
		}
	}
}
