package nfa_test

import (
	"slices"
	"strings"
	"testing"

	"rootstock/api"
	"rootstock/nfa"
	"rootstock/sets"
)

func TestAccepts(t *testing.T) {
	a, b := sets.Of("a"), sets.Of("b")
	both := from(0, api.Step{Set: a, To: 1, Free: []int{1}, Rule: 5}, api.Step{To: -1, Rule: 3, Free: []int{0}})
	ring := from(1, api.Step{To: -1, Free: []int{1}, Rule: 0}, api.Step{Set: a, To: 3, Free: []int{2}, Rule: -1}, api.Step{To: -1, Free: []int{0}, Rule: 47}, api.Step{Set: b, To: 3, Free: []int{3}, Rule: 9})
	for i, x := range []struct {
		n    api.Nfa
		text string
		want []int
	}{
		{both, "", []int{3, 5}}, {both, "a", []int{3, 5}}, {both, "aa", []int{3, 5}}, {both, "b", nil}, {both, "ab", nil}, {both, "ba", nil},
		{ring, "", []int{0, 47}}, {ring, "a", []int{9}}, {ring, "abb", []int{9}}, {ring, "b", nil}, {ring, "aa", nil},
		{from(0, dead), "", nil}, {from(0, dead), "a", nil},
		// A state that is the start, and one that is not come to.
		{from(0, api.Step{To: -1, Rule: 0}, api.Step{To: -1, Rule: 1}), "", []int{0}}, {from(1, api.Step{To: -1, Rule: 0}, api.Step{To: -1, Rule: 1}), "", []int{1}},
		// A To without bytes, and bytes without a To, are no way.
		{from(0, api.Step{To: 1, Rule: -1}, api.Step{To: -1, Rule: 1}), "a", nil}, {from(0, api.Step{Set: a, To: -1, Rule: -1}, api.Step{To: -1, Rule: 1}), "a", nil}, {from(0, api.Step{Set: a, To: -9, Rule: 1}), "a", nil},
		// A way by a byte is no free one, and a free one needs no byte.
		{from(0, api.Step{Set: a, To: 1, Rule: -1}, api.Step{To: -1, Rule: 1}), "", nil}, {from(0, api.Step{To: -1, Free: []int{1}, Rule: -1}, api.Step{To: -1, Rule: 1}), "a", nil},
		// Rules that end at several states are told once; those below 0 are none.
		{from(0, api.Step{To: -1, Free: []int{1, 2, 3}, Rule: 7}, api.Step{To: -1, Rule: 7}, api.Step{To: -1, Rule: 2}, api.Step{To: -1, Rule: -7}), "", []int{2, 7}},
		// A rule that ends on the way is told of what was read up to there alone.
		{from(0, api.Step{Set: a, To: 1, Rule: 1}, api.Step{Set: a, To: 2, Rule: 2}, api.Step{To: -1, Rule: 3}), "a", []int{2}}, {from(0, api.Step{Set: a, To: 1, Rule: 1}, api.Step{Set: a, To: 2, Rule: 2}, api.Step{To: -1, Rule: 3}), "aaa", nil},
		{from(0, api.Step{Set: a, To: 0, Free: []int{1}, Rule: -1}, api.Step{Set: b, To: 0, Rule: 4}), "aabab", []int{4}}, {from(0, api.Step{Set: a, To: 0, Free: []int{1}, Rule: -1}, api.Step{Set: b, To: 1, Rule: 4}), "aabab", nil},
	} {
		if l := accepts(t, x.n, x.text); !slices.Equal(l, x.want) {
			t.Errorf("%d: %q: %v, not %v", i, x.text, l, x.want)
		}
	}
}

func TestAcceptsByTheWords(t *testing.T) {
	d := dice(2)
	short := texts(4, "ab")
	told := map[int]int{}
	for range 1500 {
		n := d.automaton()
		free := free(n)
		for _, text := range append(short, d.text(9, "ab"), "\x00", "a\xff", "\x00\xffa", "c", "ac") {
			l, want := accepts(t, n, text), accepted(n, free, text)
			if !slices.Equal(l, want) {
				t.Errorf("%v, %q: %v, not %v", n, text, l, want)
			}
			told[len(l)]++
		}
	}
	if told[0] < 1000 || told[1] < 1000 || told[2] < 1000 || told[3] < 100 {
		t.Errorf("%v", told)
	}
}

func TestAcceptsEachByte(t *testing.T) {
	for _, s := range []api.Set{{}, sets.Not(api.Set{}), sets.Of("a"), sets.Of("\x00\xff"), sets.Range(0, 63), sets.Range(64, 127), sets.Range(128, 191), sets.Range(192, 255), sets.Not(sets.Of("\n"))} {
		n := from(0, api.Step{Set: s, To: 1, Rule: -1}, api.Step{To: -1, Rule: 6})
		for b := range 256 {
			l := accepts(t, n, string([]byte{byte(b)}))
			if is := slices.Equal(l, []int{6}); is != sets.Has(s, byte(b)) || !is && len(l) > 0 {
				t.Errorf("%v, %d: %v", s, b, l)
			}
		}
	}
}

// chain are states, of which each has a free way to the next one, and the last one to the first one.
func chain(states int) []api.Step {
	l := times(states, api.Step{Set: sets.Of("a"), To: -1, Rule: -1})
	for i := range l {
		l[i].Free = []int{(i + 1) % states}
	}
	return l
}

func TestAcceptsAtTheLimits(t *testing.T) {
	ring := chain(4096)
	ring[4095].Rule = 47
	for _, start := range []int{0, 1, 2048, 4095} {
		if l := accepts(t, from(start, ring...), ""); !slices.Equal(l, []int{47}) {
			t.Errorf("from %d: %v", start, l)
		}
	}
	ring[4095].Free = nil
	ring[4094].To = 0
	if l := accepts(t, from(4095, ring...), ""); !slices.Equal(l, []int{47}) {
		t.Error(l)
	}
	for text, want := range map[string][]int{"": {47}, "aaa": {47}, "ab": nil, "b": nil} {
		if l := accepts(t, from(5, ring...), text); !slices.Equal(l, want) {
			t.Errorf("%q: %v", text, l)
		}
	}
	// All rules end in one place.
	every := []api.Step{dead}
	var want []int
	for i := range 48 {
		every[0].Free = append(every[0].Free, 48-i)
		every = append(every, api.Step{To: -1, Rule: i})
		want = append(want, i)
	}
	if l := accepts(t, from(0, every...), ""); !slices.Equal(l, want) {
		t.Error(l)
	}
	// As many ways as may be, by each byte.
	wide := times(4096, api.Step{Set: sets.Not(api.Set{}), To: 4095, Rule: -1})
	for i := range wide {
		wide[i].Free = []int{i * 7 % 4096, i * 31 % 4096, (i + 1) % 4096, 4095 - i}
	}
	wide[17].Rule = 17
	if l := accepts(t, from(9, wide...), strings.Repeat("xyz", 200)); !slices.Equal(l, []int{17}) {
		t.Error(l)
	}
}

func TestAcceptsLongTexts(t *testing.T) {
	n := built(t, read(t, "a*", "(aa)*", "(aaa)*", "a*b", "(a|b)*a"))
	for more := range 3 {
		long := strings.Repeat("a", api.MaxText+more)
		var want []int
		for i, is := range []bool{true, len(long)%2 == 0, len(long)%3 == 0, false, true} {
			if is {
				want = append(want, i)
			}
		}
		if l := accepts(t, n, long); !slices.Equal(l, want) {
			t.Errorf("%d more: %v, not %v", more, l, want)
		}
		if l := accepts(t, n, long+"b"); !slices.Equal(l, []int{3}) {
			t.Errorf("%d more and b: %v", more, l)
		}
	}
}

func TestListsOfRulesAreTheirOwn(t *testing.T) {
	n := from(0, api.Step{To: -1, Free: []int{1}, Rule: 5}, api.Step{To: -1, Rule: 3})
	l := accepts(t, n, "")
	l[0], l[1] = 9, 9
	if m, e := nfa.Accepts(n, ""); e != api.OK || !slices.Equal(m, []int{3, 5}) {
		t.Error(m, e)
	}
}
