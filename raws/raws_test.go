package raws_test

import (
	"math"
	"reflect"
	"slices"
	"strings"
	"testing"

	"rootstock/api"
	"rootstock/raws"
	"rootstock/regs"
)

func TestExamples(t *testing.T) {
	reads(t, "if x1", api.Raw{Kind: api.KIf, Len: 2, Look: 3}, api.Raw{Kind: api.KSpace, Len: 1, Look: 2}, api.Raw{Kind: api.KName, Len: 2, Look: 3})
	reads(t, "iff(1)", api.Raw{Kind: api.KName, Len: 3, Look: 4}, api.Raw{Kind: api.KOpen, Len: 1, Look: 1}, api.Raw{Kind: api.KNumber, Len: 1, Look: 2}, api.Raw{Kind: api.KClose, Len: 1, Look: 1})
	reads(t, "a\r\n\rb", api.Raw{Kind: api.KName, Len: 1, Look: 2}, api.Raw{Kind: api.KNewline, Len: 2, Look: 2}, api.Raw{Kind: api.KBad, Len: 1, Look: 2}, api.Raw{Kind: api.KName, Len: 1, Look: 2})
	reads(t, "'a", api.Raw{Kind: api.KBad, Len: 1, Look: 3}, api.Raw{Kind: api.KName, Len: 1, Look: 2})
	reads(t, "?# x", api.Raw{Kind: api.KBad, Len: 1, Look: 1}, api.Raw{Kind: api.KComment, Len: 3, Look: 4})
}

func TestEmptyText(t *testing.T) {
	for i, d := range []api.Dfa{own, flat(1, 1), flat(2048, 2), single('a', 22), {Next: [][]int{{0}}, Rule: []int{0}}} {
		tells(t, i, language, d, "")
	}
	tells(t, "no rules", nil, flat(1, 1), "")
	tells(t, "no rules", []api.Rule{}, flat(3, 256), "")
}

func TestMixedOnesByTheWords(t *testing.T) {
	d := dice(1)
	short := texts(3, "ab")
	seen := map[string]int{}
	for range 1000 {
		rules := kinds(d.roll(9)-2, d.roll(30), d.roll(30), -d.roll(30))
		p := d.plain(len(rules))
		for _, text := range append(short, d.text(1+d.roll(20), "ab"), d.text(1+d.roll(9), "abc\x00\xff"), "\x00", "\xff\xfe", "c\xffab") {
			l, want := told(t, rules, p, text), byTheWords(t, rules, p, text)
			if !slices.Equal(l, want) {
				t.Fatalf("%v, %v, %q: %v, not %v", rules, p, text, l, want)
			}
			for _, x := range l {
				seen["bad"] += sign(x.Kind == api.KBad)
				seen["bad, and more looked at"] += sign(x.Kind == api.KBad && x.Look > 1)
				seen["short"] += sign(x.Kind != api.KBad && x.Len < x.Look)
				seen["whole"] += sign(x.Kind != api.KBad && x.Len == x.Look)
				seen["several bytes"] += sign(x.Len > 1)
			}
		}
	}
	if len(seen) != 5 || slices.Min([]int{seen["bad"], seen["bad, and more looked at"], seen["short"], seen["whole"], seen["several bytes"]}) < 500 {
		t.Errorf("%v", seen)
	}
}

func sign(is bool) int {
	if is {
		return 1
	}
	return 0
}

func TestKindsOfRules(t *testing.T) {
	// A piece has the kind of the rule by whose number the automaton tells it, whatever kind that is.
	far := []int{0, 7, 7, api.KBad, api.KJoin, 1000, -1, -2, math.MaxInt, math.MinInt}
	for i, k := range far {
		tells(t, i, kinds(far...), single('a', i), "aa", api.Raw{Kind: k, Len: 1, Look: 1}, api.Raw{Kind: k, Len: 1, Look: 1})
	}
	// There may be more rules than the automaton names, and more than a scanner may have.
	many := kinds(times(1000, 5)...)
	many[47].Kind = 6
	tells(t, "many", many, single('a', 47), "aba", api.Raw{Kind: 6, Len: 1, Look: 1}, api.Raw{Kind: api.KBad, Len: 1, Look: 1}, api.Raw{Kind: 6, Len: 1, Look: 1})
	tells(t, "one", kinds(9, 8, 7), single('a', 0), "a", api.Raw{Kind: 9, Len: 1, Look: 1})
}

func TestPatternsAreNotLookedAt(t *testing.T) {
	deep := api.Reg{Kind: api.RegEmpty}
	for range 40 {
		deep = api.Reg{Kind: api.RegStar, Parts: []api.Reg{deep}}
	}
	for i, r := range []api.Reg{{}, {Kind: api.RegEmpty}, {Kind: 99}, {Kind: math.MinInt}, {Kind: api.RegCat}, {Kind: api.RegNone, Set: api.Set{1}}, deep, {Kind: api.RegAlt, Parts: make([]api.Reg, 600)}} {
		tells(t, i, []api.Rule{{Kind: 3, Reg: r}}, single('a', 0), "ab", api.Raw{Kind: 3, Len: 1, Look: 1}, api.Raw{Kind: api.KBad, Len: 1, Look: 1})
	}
}

func TestNoRulesAtAll(t *testing.T) {
	// No rule is told anywhere: all bytes are bad, but as many are looked at as the automaton is led by.
	ring := changed(flat(1, 2), func(d *api.Dfa) { d.Class['a'], d.Next[0][1] = 1, 0 })
	for _, rules := range [][]api.Rule{nil, {}, language} {
		tells(t, "flat", rules, flat(2, 3), "ab", api.Raw{Kind: api.KBad, Len: 1, Look: 1}, api.Raw{Kind: api.KBad, Len: 1, Look: 1})
		tells(t, "ring", rules, ring, "aaba", api.Raw{Kind: api.KBad, Len: 1, Look: 3}, api.Raw{Kind: api.KBad, Len: 1, Look: 2}, api.Raw{Kind: api.KBad, Len: 1, Look: 1}, api.Raw{Kind: api.KBad, Len: 1, Look: 2})
		tells(t, "below 0", rules, changed(ring, func(d *api.Dfa) { d.Rule[0] = math.MinInt }), "b", api.Raw{Kind: api.KBad, Len: 1, Look: 1})
	}
}

func TestGreatAutomata(t *testing.T) {
	// A row of all states that may be, of which the last one alone has a rule.
	row := flat(2048, 256)
	for i := range 2047 {
		row.Next[i][0] = i + 1
	}
	row.Rule[2047] = 47
	rules := kinds(append(times(47, 1), 2)...)
	whole, rest := api.Raw{Kind: 2, Len: 2047, Look: 2047}, []api.Raw{{Kind: api.KBad, Len: 1, Look: 4}, {Kind: api.KBad, Len: 1, Look: 3}, {Kind: api.KBad, Len: 1, Look: 2}}
	tells(t, "three bytes more", rules, row, strings.Repeat("x", 2*2047+3), append([]api.Raw{whole, whole}, rest...)...)
	tells(t, "too short", rules, row, "xxx", rest...)
}

func TestLongTexts(t *testing.T) {
	for text, kind := range map[string]int{" ": api.KSpace, "#": api.KComment, "a": api.KName, "0": api.KNumber} {
		reads(t, strings.Repeat(text, api.MaxText), api.Raw{Kind: kind, Len: api.MaxText, Look: api.MaxText + 1})
	}
	for text, kind := range map[string]int{"(": api.KOpen, "\n": api.KNewline, "?": api.KBad, "\xff": api.KBad} {
		reads(t, strings.Repeat(text, api.MaxText), times(api.MaxText, api.Raw{Kind: kind, Len: 1, Look: 1})...)
	}
	reads(t, "'"+strings.Repeat("a", api.MaxText-1), api.Raw{Kind: api.KBad, Len: 1, Look: api.MaxText + 1}, api.Raw{Kind: api.KName, Len: api.MaxText - 1, Look: api.MaxText})
	reads(t, "'"+strings.Repeat("\xff", api.MaxText-2)+"'", api.Raw{Kind: api.KText, Len: api.MaxText, Look: api.MaxText})
	// Lines behind which nothing was looked at have the same pieces, however many there are.
	line := "if a1 <('x')\\\r\n :\t# y\r\n?\n"
	n := api.MaxText / len(line)
	rest := api.MaxText - n*len(line)
	want := slices.Repeat([]api.Raw{
		{Kind: api.KIf, Len: 2, Look: 3}, {Kind: api.KSpace, Len: 1, Look: 2}, {Kind: api.KName, Len: 2, Look: 3}, {Kind: api.KSpace, Len: 1, Look: 2}, {Kind: api.KLess, Len: 1, Look: 1}, {Kind: api.KOpen, Len: 1, Look: 1}, {Kind: api.KText, Len: 3, Look: 3}, {Kind: api.KClose, Len: 1, Look: 1}, {Kind: api.KJoin, Len: 3, Look: 3},
		{Kind: api.KSpace, Len: 1, Look: 2}, {Kind: api.KColon, Len: 1, Look: 1}, {Kind: api.KSpace, Len: 1, Look: 2}, {Kind: api.KComment, Len: 4, Look: 5}, {Kind: api.KNewline, Len: 1, Look: 1}, {Kind: api.KBad, Len: 1, Look: 1}, {Kind: api.KNewline, Len: 1, Look: 1},
	}, n)
	text := strings.Repeat(line, n) + strings.Repeat(")", rest)
	reads(t, text, append(want, times(rest, api.Raw{Kind: api.KClose, Len: 1, Look: 1})...)...)
	for _, more := range []string{"a", "\n", text} {
		refused(t, "more", language, own, text+more, api.ErrLong)
	}
}

func TestArgumentsStayWhatTheyWere(t *testing.T) {
	d := dice(2)
	for range 300 {
		rules := kinds(d.roll(30), d.roll(30), d.roll(30))
		for i := range rules {
			r, _, e := regs.Parse(d.text(d.roll(4), "ab."))
			if e != api.OK {
				t.Fatal(e)
			}
			rules[i].Reg = r
		}
		was := slices.Clone(rules)
		for i := range was {
			was[i].Reg.Parts = slices.Clone(was[i].Reg.Parts)
		}
		p := d.plain(3)
		before := copied(p)
		text := d.text(d.roll(9), "ab")
		first := told(t, rules, p, text)
		kept := slices.Clone(first)
		// What was answered is memory of its own: what is done to it makes no difference to what is asked again.
		for i := range first {
			first[i] = api.Raw{Kind: -9, Len: -9, Look: -9}
		}
		if again := told(t, rules, p, text); !slices.Equal(again, kept) || !reflect.DeepEqual(rules, was) || !reflect.DeepEqual(p, before) {
			t.Errorf("%v, %v became %v, %v: %v, %v", was, before, rules, p, kept, again)
		}
	}
}

func TestAnsweredTheSameEachTime(t *testing.T) {
	rules, d := raws.Rules(), raws.Dfa()
	if !reflect.DeepEqual(rules, language) || !reflect.DeepEqual(d, own) {
		t.Error("not the same")
	}
	// Whoever has them may do with them what they will.
	for i := range rules {
		rules[i].Kind = -1
		for j := range rules[i].Reg.Parts {
			rules[i].Reg.Parts[j] = api.Reg{}
		}
		rules[i].Reg = api.Reg{Kind: 99}
	}
	for i := range d.Next {
		d.Rule[i] = 99
		for c := range d.Next[i] {
			d.Next[i][c] = 0
		}
	}
	if !reflect.DeepEqual(raws.Rules(), language) || !reflect.DeepEqual(raws.Dfa(), own) || reflect.DeepEqual(rules, language) {
		t.Error("not the same any more")
	}
}
