package nfa_test

import (
	"reflect"
	"slices"
	"strings"
	"testing"

	"rootstock/api"
	"rootstock/nfa"
	"rootstock/regs"
)

func TestOf(t *testing.T) {
	words := read(t, "if", "[a-z]+", "[0-9]*")
	for _, x := range []struct {
		rules []api.Rule
		want  map[string][]int
	}{
		{words, map[string][]int{"if": {0, 1}, "iff": {1}, "i": {1}, "7": {2}, "": {2}, "If": nil, "f": {1}, "i7": nil, "700": {2}, "if ": nil}},
		{nil, map[string][]int{"": nil, "a": nil, "\x00": nil}}, {[]api.Rule{}, map[string][]int{"": nil, "a": nil}},
		{read(t, ""), map[string][]int{"": {0}, "a": nil}}, {read(t, "a"), map[string][]int{"": nil, "a": {0}, "b": nil, "aa": nil}}, {read(t, "a", "a", "b", "a"), map[string][]int{"": nil, "a": {0, 1, 3}, "b": {2}}}, {read(t, "", "a", ""), map[string][]int{"": {0, 2}, "a": {1}}},
		{read(t, "a*", "a+", "a?"), map[string][]int{"": {0, 2}, "a": {0, 1, 2}, "aa": {0, 1}, "b": nil, "ab": nil}}, {read(t, "(ab)*", "(ab)+", "(ab)?"), map[string][]int{"": {0, 2}, "ab": {0, 1, 2}, "abab": {0, 1}, "a": nil, "aba": nil, "aab": nil}},
		{read(t, "(a*b*)*", "(a*b?)+", "(a?b*)?"), map[string][]int{"": {0, 1, 2}, "ab": {0, 1, 2}, "ba": {0, 1}, "abb": {0, 1, 2}, "aab": {0, 1}, "abba": {0, 1}, "c": nil}}, {read(t, "(a+)+b", "((a*)*)*", "((a?)+)+"), map[string][]int{"": {1, 2}, "b": nil, "ab": {0}, "aaab": {0}, "aa": {1, 2}}},
		{read(t, "()*", "()+", "()?", "(|)*", "(|a)+"), map[string][]int{"": {0, 1, 2, 3, 4}, "a": {4}, "aa": {4}}}, {read(t, "a*a", "aa*", "a*aa*", "a?a"), map[string][]int{"": nil, "a": {0, 1, 2, 3}, "aa": {0, 1, 2, 3}, "aaa": {0, 1, 2}}},
		{read(t, "a|ab|abc", "(a|ab)(c|bcd)*"), map[string][]int{"a": {0, 1}, "ab": {0, 1}, "abc": {0, 1}, "abcd": {1}, "acbcd": {1}, "abb": nil, "": nil}}, {read(t, "a+b+", "a+(b+c)?", "(a|b)+c"), map[string][]int{"ab": {0}, "a": {1}, "abc": {1, 2}, "c": nil, "aabbc": {1, 2}, "bac": {2}, "abab": nil}},
		{read(t, "[]*", "[]?", "[]|a", "a|[]", "[]*b"), map[string][]int{"": {0, 1}, "a": {2, 3}, "b": {4}}}, {read(t, ".*", "[^]"), map[string][]int{"": {0}, "\n": {1}, "\x00": {0, 1}, "\xff": {0, 1}, "ab": {0}, "a\n": nil}},
	} {
		n := built(t, x.rules)
		for text, want := range x.want {
			if l := accepts(t, n, text); !slices.Equal(l, want) {
				t.Errorf("%q, %q: %v, not %v", told(x.rules), text, l, want)
			}
		}
	}
}

// notBuilt holds that rules have no automaton, and why.
func notBuilt(t *testing.T, what any, rules []api.Rule, want api.Errno) {
	t.Helper()
	n, e := nfa.Of(rules)
	if e != want || n.Start != 0 || n.Steps != nil {
		t.Errorf("%v: %v, %d states, not %v", what, e, len(n.Steps), want)
	}
}

func TestTooManyRules(t *testing.T) {
	a := of("a")
	if n := built(t, list(times(48, a)...)); len(accepts(t, n, "a")) != 48 || len(accepts(t, n, "b")) != 0 {
		t.Error("48 rules")
	}
	same(t, list(append(times(47, a), star(a))...), "", "a", "aa")
	for _, count := range []int{49, 50, 100, 5000} {
		notBuilt(t, count, list(times(count, a)...), api.ErrLong)
		// Too many rules come ahead of what these are.
		notBuilt(t, count, list(times(count, none)...), api.ErrLong)
		notBuilt(t, count, list(times(count, put(api.RegCat))...), api.ErrLong)
		notBuilt(t, count, list(times(count, down(16, api.RegStar, a))...), api.ErrLong)
	}
}

func TestRulesThatMayNotBe(t *testing.T) {
	a := of("a")
	wrong, deep, long := put(api.RegCat), down(16, api.RegStar, a), cat(times(512, a)...)
	for i, x := range []struct {
		patterns []api.Reg
		want     api.Errno
	}{
		{[]api.Reg{wrong}, api.ErrArg}, {[]api.Reg{deep}, api.ErrDeep}, {[]api.Reg{long}, api.ErrLong},
		{[]api.Reg{a, a, wrong}, api.ErrArg}, {[]api.Reg{a, deep, a}, api.ErrDeep}, {[]api.Reg{long, a, a}, api.ErrLong},
		// The first one that may not be tells why.
		{[]api.Reg{a, wrong, deep, long}, api.ErrArg}, {[]api.Reg{a, deep, long, wrong}, api.ErrDeep}, {[]api.Reg{long, wrong, deep}, api.ErrLong}, {[]api.Reg{wrong, long}, api.ErrArg}, {[]api.Reg{deep, wrong}, api.ErrDeep},
		{append(times(47, a), wrong), api.ErrArg}, {append(times(47, a), deep), api.ErrDeep}, {append(times(47, deep), wrong), api.ErrDeep},
		// It comes ahead of one that matches nothing, and of too many patterns in all of them.
		{[]api.Reg{none, wrong}, api.ErrArg}, {[]api.Reg{of(""), deep}, api.ErrDeep}, {[]api.Reg{wrong, none}, api.ErrArg}, {append(times(5, cat(times(511, a)...)), wrong), api.ErrArg}, {append(times(47, cat(times(511, a)...)), deep), api.ErrDeep}, {append(times(5, cat(times(511, none)...)), deep), api.ErrDeep},
		// Of each kind.
		{[]api.Reg{put(-1)}, api.ErrArg}, {[]api.Reg{put(8)}, api.ErrArg}, {[]api.Reg{put(api.RegStar)}, api.ErrArg}, {[]api.Reg{put(api.RegPlus, a, a)}, api.ErrArg}, {[]api.Reg{put(api.RegSet, a)}, api.ErrArg}, {[]api.Reg{put(api.RegNone, a)}, api.ErrArg}, {[]api.Reg{{Kind: api.RegEmpty, Set: a.Set}}, api.ErrArg}, {[]api.Reg{{Kind: api.RegStar, Set: a.Set, Parts: []api.Reg{a}}}, api.ErrArg}, {[]api.Reg{star(cat(a, put(api.RegMaybe)))}, api.ErrArg},
	} {
		notBuilt(t, i, list(x.patterns...), x.want)
	}
	// One that has itself in it.
	ring := put(api.RegCat, a, a)
	ring.Parts[1] = ring
	notBuilt(t, "ring", list(a, ring), api.ErrLong)
	same(t, list(cat(times(511, a)...), down(15, api.RegStar, a)), "", "a", strings.Repeat("a", 511), strings.Repeat("a", 512))
}

func TestPatternsThatMatchNothing(t *testing.T) {
	short := texts(4, "ab")
	blank := 0
	for i, r := range above(small()) {
		rules := list(of("a"), r)
		if i%2 == 0 {
			rules = list(r)
		}
		matches := slices.ContainsFunc(short, func(text string) bool {
			is, _ := regs.Matches(r, text)
			return is
		})
		if matches {
			built(t, rules)
			continue
		}
		blank++
		notBuilt(t, told(rules), rules, api.ErrBlank)
	}
	if blank < 1000 {
		t.Errorf("%d patterns that match nothing", blank)
	}
}

func TestNothingWithinPatterns(t *testing.T) {
	a := of("a")
	for i, none := range []api.Reg{none, of(""), plus(none), cat(none), alt(none), alt(none, of(""), cat(a, none))} {
		for j, r := range []api.Reg{none, plus(none), cat(none, a), cat(a, none), cat(star(a), none, empty), alt(none, none), alt(none, cat(a, none)), plus(cat(a, none)), down(10, api.RegPlus, none), down(10, api.RegCat, none), down(10, api.RegAlt, none), cat(star(none), none), plus(alt(none, plus(none)))} {
			for _, patterns := range [][]api.Reg{{r}, {a, r}, {r, a}, {a, empty, r, a}, append(times(47, a), r), append([]api.Reg{r}, times(47, a)...)} {
				notBuilt(t, [2]int{i, j}, list(patterns...), api.ErrBlank)
			}
		}
		same(t, list(star(none), maybe(none), alt(none, a), alt(a, none), alt(none, empty), cat(star(none), a), plus(maybe(none)), plus(alt(none, a)), star(cat(none, a)), alt(cat(a, none), cat(a, a)), plus(star(none)), maybe(cat(none, a, none))), texts(3, "ab")...)
	}
}

// sized are patterns of so many in all, at most most in each, which has a shape of so many, two at least.
func sized(n, most int, shape func(n int) api.Reg) []api.Reg {
	var l []api.Reg
	for ; n > 1; n -= min(n, most) {
		l = append(l, shape(min(n, most)))
	}
	return append(l, times(n, of("a"))...)
}

func TestTooManyPatterns(t *testing.T) {
	a := of("a")
	// Those whose size is even have one byte more.
	odd := func(kind, inner int) func(int) api.Reg {
		return func(n int) api.Reg {
			r := put(kind, times((n-1)/2, put(inner, a))...)
			if n%2 == 0 {
				r.Parts = append(r.Parts, a)
			}
			return r
		}
	}
	row := func(n int) api.Reg { return cat(times(n-1, a)...) }
	choice := func(n int) api.Reg { return alt(times(n-1, a)...) }
	for i, x := range []struct {
		most  int
		shape func(int) api.Reg
	}{
		{512, row}, {512, choice}, {512, func(n int) api.Reg { return alt(times(n-1, empty)...) }}, {511, row}, {43, row}, {43, choice}, {100, func(n int) api.Reg { return plus(row(n - 1)) }}, {300, func(n int) api.Reg { return star(maybe(plus(choice(n - 3)))) }},
		{512, odd(api.RegCat, api.RegStar)}, {512, odd(api.RegCat, api.RegPlus)}, {512, odd(api.RegCat, api.RegMaybe)}, {512, odd(api.RegAlt, api.RegStar)}, {512, odd(api.RegAlt, api.RegPlus)}, {512, odd(api.RegAlt, api.RegMaybe)}, {512, odd(api.RegAlt, api.RegAlt)}, {512, odd(api.RegCat, api.RegAlt)},
		{43, odd(api.RegCat, api.RegStar)}, {43, odd(api.RegAlt, api.RegMaybe)},
	} {
		whole := list(sized(2047, x.most, x.shape)...)
		same(t, whole, "", "a", "aa", "ab", strings.Repeat("a", 42), strings.Repeat("a", 255), strings.Repeat("a", 511))
		for _, n := range []int{2048, 2049, 2064} {
			notBuilt(t, [2]int{i, n}, list(sized(n, x.most, x.shape)...), api.ErrLong)
		}
	}
	same(t, list(append(times(3, row(512)), row(511))...), strings.Repeat("a", 511), strings.Repeat("a", 510))
	notBuilt(t, "2048", list(times(4, row(512))...), api.ErrLong)
	notBuilt(t, "in the last one", list(append(times(4, row(511)), cat(a, a, a))...), api.ErrLong)
	same(t, list(append(times(4, row(511)), cat(a, a))...), strings.Repeat("a", 510), "aa", "a")
	// Too many come ahead of one that matches nothing.
	notBuilt(t, "none", list(append(times(4, row(511)), cat(none, a, a))...), api.ErrLong)
	notBuilt(t, "none", list(append([]api.Reg{none}, times(4, row(512))...)...), api.ErrLong)
	notBuilt(t, "none of 2047", list(append(times(4, row(511)), cat(none, a))...), api.ErrBlank)
	notBuilt(t, "most of all", list(times(48, row(512))...), api.ErrLong)
}

func TestKindsAreNotLookedAt(t *testing.T) {
	rules := read(t, "a", "b*", "[ab]+")
	n := built(t, rules)
	for _, kind := range []int{-1, 0, 5, api.Kinds, 1 << 40} {
		for i := range rules {
			rules[i].Kind = kind
		}
		if m := built(t, rules); !reflect.DeepEqual(m, n) {
			t.Errorf("%d: %v, not %v", kind, m, n)
		}
	}
}

func TestRulesStayWhatTheyWere(t *testing.T) {
	d := dice(6)
	for range 200 {
		rules := d.rules(5, 5)
		was := copiedRules(rules)
		n, e := nfa.Of(rules)
		if !reflect.DeepEqual(rules, was) {
			t.Errorf("%v became %v", was, rules)
		}
		// The automaton is memory of its own: what happens to the rules makes no difference to it, nor to a second one what happens to the first one.
		first := copied(n)
		for i := range rules {
			rules[i] = api.Rule{}
		}
		if m, f := nfa.Of(was); e != f || !reflect.DeepEqual(n, first) || !reflect.DeepEqual(m, n) {
			t.Errorf("%v: %v became %v, %v", told(was), first, n, m)
		}
		overwrite(n)
		if m, f := nfa.Of(was); e != f || !reflect.DeepEqual(m, first) {
			t.Errorf("%v: %v, not %v", told(was), m, first)
		}
	}
}

// overwrite changes all of an automaton's memory.
func overwrite(n api.Nfa) {
	for i := range n.Steps {
		for j := range n.Steps[i].Free {
			n.Steps[i].Free[j] = -9
		}
		n.Steps[i] = api.Step{To: -9}
	}
}

func TestListsOfFreeWaysShareNothing(t *testing.T) {
	d := dice(7)
	for range 200 {
		n := built(t, d.rules(5, 5))
		was := copied(n)
		for i := range n.Steps {
			old := n.Steps[i].Free
			more := append(old, -9)
			for j := range old {
				old[j], more[j] = -9, -9
			}
			n.Steps[i].Free = was.Steps[i].Free
			if !reflect.DeepEqual(n, was) {
				t.Fatalf("the free ways of %d: %v became %v", i, was, n)
			}
		}
	}
}
