package relex_test

import (
	"math"
	"reflect"
	"strings"
	"testing"

	"rootstock/api"
	"rootstock/edits"
	"rootstock/raws"
	"rootstock/relex"
)

// short and long are texts that may be, and texts that may not.
func short() []string { return []string{"", "a", "if x1", "\x00\xff", strings.Repeat("a", 300)} }
func long() []string {
	return []string{strings.Repeat("a", api.MaxText+1), strings.Repeat("\xff", 2*api.MaxText)}
}

// wild are edits that fit no text.
func wild() []api.Edit {
	return []api.Edit{
		edit(-1, 0, ""), edit(-1, -1, "a"), edit(0, -1, ""), edit(2, 1, ""), edit(1, 0, "abc"),
		edit(0, api.MaxText+1, ""), edit(api.MaxText+1, api.MaxText+1, ""), edit(api.MaxText, api.MaxText+1, "a"),
		edit(math.MinInt, 0, ""), edit(0, math.MinInt, ""), edit(math.MinInt, math.MaxInt, ""), edit(math.MaxInt, math.MinInt, ""),
		edit(0, math.MaxInt, ""), edit(math.MaxInt, math.MaxInt, "a"), edit(math.MinInt, math.MinInt, "a"),
	}
}

// wrong are automata that may not be, in each way, by what is told of them.
func wrong() map[api.Errno][]api.Dfa {
	three := api.Dfa{Next: [][]int{{0, 1}, {2, -1}, {-1, 0}}, Rule: []int{-1, 5, 0}}
	l := []api.Dfa{
		// No state; not as many rows as rules.
		{}, {Next: [][]int{}, Rule: []int{}}, {Start: -1}, {Rule: []int{0}}, {Next: [][]int{{0}}}, {Next: [][]int{{0}, {0}}, Rule: []int{0}}, {Next: [][]int{{0}}, Rule: []int{0, 0}},
		// No place; too many; rows of unlike lengths.
		{Next: [][]int{{}}, Rule: []int{0}}, {Next: [][]int{nil, nil}, Rule: []int{0, 0}}, flat(1, 257), {Next: [][]int{{0}, {}}, Rule: []int{0, 0}}, {Next: [][]int{{0}, {0, 0}}, Rule: []int{0, 0}},
		// A class that is none.
		changed(three, func(d *api.Dfa) { d.Class[255] = 2 }), changed(flat(1, 255), func(d *api.Dfa) { d.Class[0] = 255 }),
	}
	for _, n := range []int{3, api.MaxRules, math.MaxInt} {
		l = append(l, changed(three, func(d *api.Dfa) { d.Start = n }), changed(three, func(d *api.Dfa) { d.Start = -n }))
		for state := range 3 {
			l = append(l, changed(three, func(d *api.Dfa) { d.Next[state][1] = n }))
			if n > 3 {
				l = append(l, changed(three, func(d *api.Dfa) { d.Rule[state] = n }))
			}
		}
	}
	rows := flat(2049, 1).Next
	return map[api.Errno][]api.Dfa{api.ErrArg: l, api.ErrLong: {
		flat(2049, 1), {Next: rows}, {Rule: times(2049, 0)}, {Next: rows[:2048], Rule: times(2049, 0)}, {Next: rows, Rule: times(2048, 47)}, changed(flat(2049, 1), func(d *api.Dfa) { d.Start = -1 }), {Next: make([][]int, 2049), Rule: times(2049, 48)},
	}}
}

// refused holds that there is no new scan, as raws.Of says.
func refused(t *testing.T, what any, rules []api.Rule, d api.Dfa, text string, want api.Errno) {
	t.Helper()
	if _, f := raws.Of(rules, d, text); f != want {
		t.Fatalf("%v, %d rules, %.20q: raws.Of tells %v, not %v", what, len(rules), text, f, want)
	}
	if s, f := relex.New(rules, d, text); s != nil || f != want {
		t.Errorf("%v, %d rules, %.20q: %v, not %v", what, len(rules), text, f, want)
	}
}

func TestAutomataThatMayNotBe(t *testing.T) {
	// The automaton's error comes ahead of rules that are none, and of a text that is too long.
	for want, bad := range wrong() {
		for i, d := range bad {
			for _, rules := range [][]api.Rule{nil, {}, language.rules, kinds(times(60, 1)...)} {
				for _, text := range append(short(), long()...) {
					refused(t, i, rules, d, text, want)
				}
			}
		}
	}
}

func TestRulesThatAreNone(t *testing.T) {
	for _, text := range append(short(), long()...) {
		refused(t, "one rule less", language.rules[:22], language.d, text, api.ErrArg)
		refused(t, "no rules", nil, language.d, text, api.ErrArg)
		refused(t, "no rules", []api.Rule{}, single('a', 0), text, api.ErrArg)
		for n := range api.MaxRules {
			// At Start; where a way leads; at a state that nothing leads to.
			refused(t, n, kinds(times(n, 3)...), changed(flat(1, 1), func(d *api.Dfa) { d.Rule[0] = n }), text, api.ErrArg)
			refused(t, n, kinds(times(n, 3)...), single('a', n), text, api.ErrArg)
			refused(t, n, kinds(times(n, 3)...), changed(flat(3, 2), func(d *api.Dfa) { d.Rule[2] = api.MaxRules - 1 }), text, api.ErrArg)
		}
	}
}

func TestTextsThatAreTooLong(t *testing.T) {
	for _, text := range long() {
		refused(t, "the language", language.rules, language.d, text, api.ErrLong)
		refused(t, "one state", language.rules, flat(1, 1), text, api.ErrLong)
		refused(t, "no rules", nil, flat(2, 3), text, api.ErrLong)
		refused(t, "more rules", kinds(times(60, 1)...), single('b', 47), text, api.ErrLong)
	}
}

// turnedDown holds that a scan takes no edit, as edits.Check says, and stays what it is.
func turnedDown(t *testing.T, s *relex.Scan, e api.Edit, want api.Errno) {
	t.Helper()
	text, x := s.Text(), s.Lexed()
	if f := edits.Check(len(text), e); f != want {
		t.Fatalf("%.20q, %d to %d, %.20q: edits.Check tells %v, not %v", text, e.Start, e.End, e.Text, f, want)
	}
	if n, r, f := s.Edit(e); n != nil || f != want || !reflect.DeepEqual(r, api.Relexed{}) {
		t.Errorf("%.20q, %d to %d, %.20q: %.200v, %v, not %v", text, e.Start, e.End, e.Text, r, f, want)
	}
	if s.Text() != text || !alike(s.Lexed(), x) {
		t.Errorf("%.20q, %d to %d, %.20q: it is not what it was", text, e.Start, e.End, e.Text)
	}
}

func TestEditsThatDoNotFit(t *testing.T) {
	for _, text := range append(short(), "if a:\n  (b\n", strings.Repeat("a", api.MaxText)) {
		s := scan(t, language, text)
		n := len(text)
		// A text that is too long would come out, too: that one is told behind the other.
		for _, comes := range append([]string{"", "a", strings.Repeat("a", api.MaxText)}, long()...) {
			for _, e := range append(wild(), edit(0, n+1, ""), edit(n, n+1, ""), edit(n+1, n+1, ""), edit(n+1, n, ""), edit(n+1, 0, ""), edit(-1, n, "")) {
				e.Text = comes
				if e.End < e.Start || e.Start < 0 || e.End > n {
					turnedDown(t, s, e, api.ErrSpan)
				}
			}
		}
		// Once refused, others are taken as ever.
		holds(t, language, s, edit(0, n, "b"))
	}
}

func TestEditsThatMakeTooMuch(t *testing.T) {
	const n = api.MaxText
	full := strings.Repeat("a", n)
	s := scan(t, language, full)
	for _, e := range []api.Edit{edit(0, 0, "b"), edit(n, n, "b"), edit(7, 7, "b"), edit(7, 9, "bcd"), edit(0, n, full+"a"), edit(0, n, full+full), edit(1, n, full), edit(0, n-1, full), edit(0, 0, full+full)} {
		turnedDown(t, s, e, api.ErrLong)
	}
	holds(t, language, s, edit(7, 9, "()"))
	for _, text := range []string{"", "a", "(a\n"} {
		s := scan(t, language, text)
		turnedDown(t, s, edit(0, 0, full+"a"), api.ErrLong)
		turnedDown(t, s, edit(len(text), len(text), full[len(text):]+"a"), api.ErrLong)
		turnedDown(t, s, edit(0, len(text), full+"a"), api.ErrLong)
		holds(t, language, s, edit(len(text), len(text), full[len(text):]))
	}
}
