package mini_test

import (
	"reflect"
	"slices"
	"testing"

	"rootstock/api"
)

func TestMixedOnesByTheWords(t *testing.T) {
	d := dice(2)
	kinds := map[string]int{}
	for i := range 3000 {
		p := d.few()
		if i%3 == 0 {
			p = d.blown(p)
		}
		w := wordsOf(p)
		want := w.least()
		before := copied(p)
		is(t, p, p, want)
		if !reflect.DeepEqual(p, before) {
			t.Fatalf("%v became %v", before, p)
		}
		kinds["joined"] += sign(len(want.Next) < len(p.Next))
		kinds["several states"] += sign(len(want.Next) > 2)
		kinds["several classes"] += sign(len(want.Next[0]) > 2)
		kinds["Start is not live"] += sign(!w.live[p.Start])
		kinds["ways back to Start"] += sign(slices.ContainsFunc(want.Next, func(row []int) bool { return slices.Contains(row, 0) }))
	}
	for kind, n := range kinds {
		if n < 250 {
			t.Errorf("%s: %d", kind, n)
		}
	}
}

func sign(is bool) int {
	if is {
		return 1
	}
	return 0
}

func TestSameOfMixedOnesByTheWords(t *testing.T) {
	d := dice(3)
	told := map[bool]int{}
	for range 3000 {
		a := d.few()
		b := d.blown(a)
		if d.roll(3) > 0 {
			b = d.slip(b)
		}
		want := tellSame(a, b)
		told[want]++
		if is := same(t, a, b); is != want {
			t.Errorf("%v, %v: %v", a, b, is)
		}
		if is := same(t, b, a); is != want {
			t.Errorf("%v, %v: %v", b, a, is)
		}
		// Two tell the same just if their Leasts are the same.
		if is := reflect.DeepEqual(least(t, a), least(t, b)); is != want {
			t.Errorf("%v, %v: the Leasts are the same: %v", a, b, is)
		}
	}
	if told[true] < 500 || told[false] < 500 {
		t.Errorf("%v", told)
	}
}

// slip is an automaton with one thing changed.
func (d *dice) slip(p api.Dfa) api.Dfa {
	return changed(p, func(p *api.Dfa) {
		state := d.roll(len(p.Next))
		switch d.roll(4) {
		case 0:
			p.Start = state
		case 1:
			p.Rule[state] = d.roll(49) - 1
		case 2:
			p.Next[state][d.roll(len(p.Next[0]))] = d.roll(len(p.Next)+1) - 1
		case 3:
			p.Class["ab\x00\xffc"[d.roll(5)]] = uint8(d.roll(len(p.Next[0])))
		}
	})
}

func TestLeastTellsTheSame(t *testing.T) {
	d := dice(4)
	short := texts(4, "ab")
	told := map[bool]int{}
	for range 1000 {
		p := d.blown(d.few())
		l := least(t, p)
		if len(l.Next) > len(p.Next) {
			t.Errorf("%v: %d states", p, len(l.Next))
		}
		for _, text := range append(short, d.text(15, "ab"), d.text(15, "abc\x00\xff"), "\x00", "\xff", "c", "a\xff", "\x80b") {
			r := rule(t, l, text)
			told[r >= 0]++
			if want := rule(t, p, text); r != want {
				t.Errorf("%v, %q: %d, not %d", p, text, r, want)
			}
		}
		// The Least of the Least is itself.
		is(t, p, l, l)
		if !same(t, p, l) {
			t.Errorf("%v: not the same as its Least", p)
		}
	}
	if told[true] < 3000 || told[false] < 3000 {
		t.Errorf("%v", told)
	}
}

func TestNumbersMakeNoDifference(t *testing.T) {
	d := dice(5)
	for range 1000 {
		p := d.few()
		states, stateAt := d.more(len(p.Next), 1)
		classes, classAt := d.more(len(p.Next[0]), 1)
		q := api.Dfa{Start: stateAt[p.Start][0]}
		for b, c := range p.Class {
			q.Class[b] = uint8(classAt[c][0])
		}
		for _, state := range states {
			var row []int
			for _, class := range classes {
				to := p.Next[state][class]
				if to >= 0 {
					to = stateAt[to][0]
				}
				row = append(row, to)
			}
			q.Next = append(q.Next, row)
			q.Rule = append(q.Rule, p.Rule[state])
		}
		is(t, p, q, least(t, p))
		is(t, p, d.blown(q), least(t, p))
		if !same(t, p, q) {
			t.Errorf("%v, %v", p, q)
		}
	}
}

func TestStatesOfLeastAreToldApart(t *testing.T) {
	d := dice(6)
	for range 1000 {
		l := least(t, d.blown(d.few()))
		w := wordsOf(l)
		for i := range l.Next {
			for j := range i {
				if !w.apart[i][j] {
					t.Errorf("%v: %d and %d are alike", l, j, i)
				}
			}
			if i > 0 && !w.live[i] {
				t.Errorf("%v: %d is not live", l, i)
			}
			if i > 0 && !comeTo(l, i) {
				t.Errorf("%v: %d is not come to from a state ahead of it", l, i)
			}
			if again := least(t, from(i, l)); len(again.Next) > len(l.Next) || tellSame(again, l) != (i == 0) {
				t.Errorf("%v from %d: %v", l, i, again)
			}
		}
	}
}

// comeTo tells whether some byte leads to a state from one that has a lesser number.
func comeTo(d api.Dfa, state int) bool {
	return slices.ContainsFunc(d.Next[:state], func(row []int) bool { return slices.Contains(row, state) })
}

func TestPatternsThatMatchTheSame(t *testing.T) {
	for _, x := range []struct {
		a, b []string
		is   bool
	}{
		{[]string{"(a|b)*"}, []string{"(a*b*)*"}, true}, {[]string{"(a|b)*"}, []string{"a*b*"}, false}, {[]string{"a+"}, []string{"aa*"}, true}, {[]string{"a+"}, []string{"a*"}, false}, {[]string{"(ab)*a"}, []string{"a(ba)*"}, true}, {[]string{"(aa|aaa)*"}, []string{"a?aaa*|()"}, true}, {[]string{"(aa|aaa)*"}, []string{"a*"}, false}, {[]string{"(aa|aaa)*"}, []string{"(aa+)?"}, true},
		{[]string{"[a-z]+", "if"}, []string{"[a-z]+"}, true}, {[]string{"if", "[a-z]+"}, []string{"[a-z]+"}, false}, {[]string{"if", "[a-z]+"}, []string{"if", "[a-z][a-z]*|if"}, true}, {[]string{"if", "[a-z]+"}, []string{"[a-z]+", "if"}, false},
		{[]string{"(a|b)*a(a|b)(a|b)(a|b)(a|b)(a|b)"}, []string{"(a|b)*a((a|b)((a|b)((a|b)((a|b)(a|b)))))"}, true}, {[]string{"(a|b)*a(a|b)(a|b)(a|b)(a|b)(a|b)"}, []string{"(a|b)*a(a|b)(a|b)(a|b)(a|b)b?"}, false},
	} {
		a, b := ruled(t, x.a...), ruled(t, x.b...)
		if is := same(t, a, b); is != x.is || reflect.DeepEqual(least(t, a), least(t, b)) != x.is {
			t.Errorf("%q, %q: %v", x.a, x.b, is)
		}
	}
	// The least one of texts with an a at the sixth place from the end has a state for each six last bytes.
	if l := least(t, ruled(t, "(a|b)*a(a|b)(a|b)(a|b)(a|b)(a|b)")); len(l.Next) != 64 {
		t.Errorf("%d states", len(l.Next))
	}
	pairs := least(t, ruled(t, "(ab)*"))
	for text, want := range map[string]int{"": 0, "a": -1, "ab": 0, "aba": -1, "abab": 0, "ba": -1} {
		if r := rule(t, pairs, text); r != want {
			t.Errorf("%q: %d, not %d", text, r, want)
		}
	}
}
