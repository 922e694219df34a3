package dfa_test

import (
	"math"
	"reflect"
	"strings"
	"testing"

	"rootstock/api"
	"rootstock/dfa"
)

// rows are as many rows, each with as many places, which lead nowhere.
func rows(states, classes int) [][]int {
	var l [][]int
	for range states {
		l = append(l, times(classes, -1))
	}
	return l
}

// flat is an automaton of as many states and classes, which leads nowhere.
func flat(states, classes int) api.Dfa {
	return api.Dfa{Next: rows(states, classes), Rule: times(states, -1)}
}

// changed is an automaton with something else in it.
func changed(d api.Dfa, change func(d *api.Dfa)) api.Dfa {
	c := copiedPlain(d)
	change(&c)
	return c
}

func TestCheck(t *testing.T) {
	three := api.Dfa{Start: 2, Class: classes("a", "\xff"), Next: [][]int{{2, -1, 0}, {2, 1, 2}, {-1, -1, -1}}, Rule: []int{47, -1, 0}}
	last := classes()
	last[0], last[255] = 255, 255
	for i, d := range []api.Dfa{
		three, flat(1, 1), {Next: [][]int{{0}}, Rule: []int{0}}, flat(2, 1), flat(1, 2), {Class: classes("a"), Next: [][]int{{0, -1}}, Rule: []int{47}},
		// Classes of which there are no bytes.
		flat(1, 255), flat(1, 256), flat(3, 256),
		changed(flat(2, 256), func(d *api.Dfa) { d.Class = each() }), changed(flat(1, 256), func(d *api.Dfa) { d.Class = last }), changed(flat(1, 2), func(d *api.Dfa) { d.Class[255] = 1 }), changed(flat(1, 2), func(d *api.Dfa) { d.Class[0] = 1 }),
		// What is below 0 is one and the same.
		{Next: [][]int{{math.MinInt}, {-2}}, Rule: []int{math.MinInt, -48}, Start: 1},
		flat(2047, 1), flat(2048, 1), flat(2048, 256), changed(flat(2048, 2), func(d *api.Dfa) {
			d.Start, d.Next[2047][1], d.Next[0][0], d.Rule[2047] = 2047, 2047, 2047, 47
		}),
	} {
		if e := dfa.Check(d); e != api.OK {
			t.Errorf("%d: %v", i, e)
		}
	}
}

// refused holds that an automaton may not be, and why.
func refused(t *testing.T, what any, d api.Dfa, want api.Errno) {
	t.Helper()
	if e := dfa.Check(d); e != want {
		t.Errorf("%v: Check %v, not %v", what, e, want)
	}
	for _, text := range []string{"", "a", "abc"} {
		if r, e := dfa.Rule(d, text); r != 0 || e != want {
			t.Errorf("%v: Rule %d, %v, not %v", what, r, e, want)
		}
		// What an automaton is comes ahead of where it is gone on from.
		for _, at := range []int{0, 1, -1, 5000} {
			if s, e := dfa.Run(d, at, text); s != 0 || e != want {
				t.Errorf("%v: Run %d, %v, not %v", what, s, e, want)
			}
		}
	}
}

func TestWhatMayNotBe(t *testing.T) {
	three := api.Dfa{Class: classes("a"), Next: [][]int{{0, 1}, {2, -1}, {-1, 0}}, Rule: []int{-1, 5, 0}}
	for i, d := range []api.Dfa{
		// No state; not as many rows as rules.
		{}, {Next: [][]int{}, Rule: []int{}}, {Rule: []int{0}}, {Next: [][]int{{0}}}, {Next: [][]int{{0}, {0}}, Rule: []int{0}}, {Next: [][]int{{0}}, Rule: []int{0, 0}}, {Next: rows(2048, 1), Rule: times(2047, 0)}, {Next: rows(2047, 1), Rule: times(2048, 0)}, {Start: -1}, {Start: 1},
		// No place; too many; rows of unlike lengths.
		{Next: [][]int{{}}, Rule: []int{0}}, {Next: [][]int{nil, nil}, Rule: []int{0, 0}}, flat(1, 257), flat(2, 257), flat(1, 512), flat(1, 513), flat(1, 65536), flat(2048, 257),
		{Next: [][]int{{0}, {}}, Rule: []int{0, 0}}, {Next: [][]int{{}, {0}}, Rule: []int{0, 0}}, {Next: [][]int{{0}, {0, 0}}, Rule: []int{0, 0}}, {Next: [][]int{{0, 0}, {0}}, Rule: []int{0, 0}}, {Next: [][]int{{0}, {0}, nil}, Rule: []int{0, 0, 0}}, {Next: [][]int{{0, 0}, {0, 0}, {0, 0, 0}}, Rule: []int{0, 0, 0}},
		{Next: [][]int{times(256, 0), times(257, 0)}, Rule: []int{0, 0}}, {Next: [][]int{times(257, 0), times(256, 0)}, Rule: []int{0, 0}},
	} {
		refused(t, i, d, api.ErrArg)
	}
	for _, start := range []int{3, 4, -1, -2, math.MaxInt, math.MinInt} {
		refused(t, start, changed(three, func(d *api.Dfa) { d.Start = start }), api.ErrArg)
	}
	for at := range 3 {
		for _, to := range []int{3, 4, math.MaxInt} {
			refused(t, to, changed(three, func(d *api.Dfa) { d.Next[at][0] = to }), api.ErrArg)
			refused(t, to, changed(three, func(d *api.Dfa) { d.Next[at][1] = to }), api.ErrArg)
		}
		for _, rule := range []int{48, 49, 64, 256, math.MaxInt} {
			refused(t, rule, changed(three, func(d *api.Dfa) { d.Rule[at] = rule }), api.ErrArg)
		}
	}
	for b := range 256 {
		for _, class := range []uint8{2, 3, 255} {
			refused(t, b, changed(three, func(d *api.Dfa) { d.Class[b] = class }), api.ErrArg)
		}
		refused(t, b, changed(flat(1, 1), func(d *api.Dfa) { d.Class[b] = 1 }), api.ErrArg)
		refused(t, b, changed(flat(1, 255), func(d *api.Dfa) { d.Class[b] = 255 }), api.ErrArg)
	}
	big := flat(2048, 2)
	refused(t, "Start", changed(big, func(d *api.Dfa) { d.Start = 2048 }), api.ErrArg)
	refused(t, "Next", changed(big, func(d *api.Dfa) { d.Next[2047][1] = 2048 }), api.ErrArg)
	refused(t, "Rule", changed(big, func(d *api.Dfa) { d.Rule[2047] = 48 }), api.ErrArg)
	refused(t, "a place of no class of which there are bytes", changed(flat(1, 256), func(d *api.Dfa) { d.Next[0][255] = 1 }), api.ErrArg)
}

func TestTooMany(t *testing.T) {
	for i, d := range []api.Dfa{
		flat(2049, 1), flat(2050, 1), flat(4096, 1), flat(2049, 256),
		// Either of both is too many, whatever the other one is, and comes ahead of what may not be.
		{Next: rows(2049, 1)}, {Rule: times(2049, 0)}, {Next: rows(2049, 1), Rule: times(2048, 0)}, {Next: rows(2048, 1), Rule: times(2049, 0)}, {Next: rows(2049, 1), Rule: times(2049, 48)}, {Next: times(2049, []int{}), Rule: times(2049, 0)}, flat(2049, 257), {Start: -1, Next: rows(2049, 1), Rule: times(2049, 0)}, {Start: 2049, Next: rows(2049, 1), Rule: times(2049, 0)}, {Class: classes("a"), Next: rows(2049, 1), Rule: times(2049, 0)}, {Next: times(2049, []int{2049}), Rule: times(2049, 0)}, {Next: make([][]int, 100000)},
	} {
		refused(t, i, d, api.ErrLong)
	}
}

// known is the automaton of the chapter's example.
var known = api.Dfa{Class: classes("abcdeghjklmnopqrstuvwxyz", "f", "i"), Next: [][]int{{-1, 1, 1, 2}, {-1, 1, 1, 1}, {-1, 1, 3, 1}, {-1, 1, 1, 1}}, Rule: []int{-1, 1, 1, 0}}

// mixed is one that does not begin in its first state, with bytes of all kinds, and unlike numbers below 0.
var mixed = api.Dfa{Start: 2, Class: classes("ab", "\x00", "\xff\n"), Next: [][]int{{-7, 1, 0, 2}, {-1, -1, -1, -1}, {0, 2, math.MinInt, 1}}, Rule: []int{47, -9, math.MinInt}}

func TestRun(t *testing.T) {
	for _, x := range []struct {
		d    api.Dfa
		from int
		text string
		want int
	}{
		{known, 0, "", 0}, {known, 2, "", 2}, {known, 3, "", 3}, {known, 2, "f", 3}, {known, 0, "7", -1}, {known, 0, "i", 2}, {known, 0, "if", 3}, {known, 0, "iff", 1}, {known, 3, "f", 1}, {known, 1, "if", 1},
		// From nowhere on it leads nowhere.
		{known, 0, "7a", -1}, {known, 0, "a7a", -1}, {known, 0, "7if", -1}, {known, 2, "7777", -1}, {known, 3, "if7", -1},
		// It is gone on from the state that is told, wherever it begins.
		{mixed, 0, "", 0}, {mixed, 1, "", 1}, {mixed, 2, "", 2}, {mixed, 0, "a", 1}, {mixed, 0, "b", 1}, {mixed, 0, "\x00", 0}, {mixed, 0, "\xff", 2}, {mixed, 0, "\n", 2}, {mixed, 2, "ab", 2}, {mixed, 2, "c", 0}, {mixed, 2, "\x80\x00\x00\n\xff", 1},
		{mixed, 0, "c", -1}, {mixed, 2, "\x00", -1}, {mixed, 2, "\x00a", -1}, {mixed, 1, "a", -1}, {mixed, 1, "ab", -1}, {mixed, 0, "ca", -1}, {mixed, 0, "cc", -1},
	} {
		if s := ran(t, x.d, x.from, x.text); s != x.want {
			t.Errorf("from %d, %q: %d, not %d", x.from, x.text, s, x.want)
		}
	}
	for _, d := range []api.Dfa{known, mixed, flat(2048, 1)} {
		n := len(d.Next)
		for _, from := range []int{n, n + 1, -1, -2, math.MaxInt, math.MinInt} {
			for _, text := range []string{"", "a", "7a"} {
				if s, e := dfa.Run(d, from, text); s != 0 || e != api.ErrArg {
					t.Errorf("from %d, %q: %d, %v", from, text, s, e)
				}
			}
		}
		if s := ran(t, d, n-1, ""); s != n-1 {
			t.Errorf("from %d: %d", n-1, s)
		}
	}
}

func TestRule(t *testing.T) {
	for _, x := range []struct {
		d    api.Dfa
		text string
		want int
	}{
		{known, "if", 0}, {known, "i", 1}, {known, "", -1}, {known, "7", -1}, {known, "iff", 1}, {known, "7a", -1}, {known, "if7", -1}, {known, "z", 1},
		{mixed, "", -1}, {mixed, "c", 47}, {mixed, "abc", 47}, {mixed, "\xff", -1}, {mixed, "c\x00\x00", 47}, {mixed, "ca", -1}, {mixed, "\x00", -1}, {mixed, "\x00c", -1}, {mixed, "c\xff", -1}, {mixed, "c\nc", 47},
		{flat(1, 1), "", -1}, {flat(1, 1), "a", -1}, {api.Dfa{Next: [][]int{{0}}, Rule: []int{0}}, "", 0}, {api.Dfa{Next: [][]int{{0}}, Rule: []int{0}}, "\x00a\xff", 0}, {api.Dfa{Next: [][]int{{-1}}, Rule: []int{0}}, "a", -1},
	} {
		if r := rule(t, x.d, x.text); r != x.want {
			t.Errorf("%q: %d, not %d", x.text, r, x.want)
		}
	}
}

// walked is where an automaton leads by the chapter's words: the text ahead of its last byte, then that.
func walked(d api.Dfa, from int, text string) int {
	if text == "" {
		return from
	}
	ahead, last := text[:len(text)-1], text[len(text)-1]
	at := walked(d, from, ahead)
	if at < 0 {
		return -1
	}
	return max(-1, d.Next[at][d.Class[last]])
}

func TestMixedOnesByTheWords(t *testing.T) {
	d := dice(1)
	led, ended := map[bool]int{}, map[bool]int{}
	for range 1500 {
		p := d.plain()
		for range 10 {
			text := d.text(d.roll(9), "ab\x00\xff\n\x80c")
			from := d.roll(len(p.Next))
			want := walked(p, from, text)
			if s := ran(t, p, from, text); s != want {
				t.Errorf("%v, from %d, %q: %d, not %d", p, from, text, s, want)
			}
			led[want >= 0]++
			tells := -1
			if at := walked(p, p.Start, text); at >= 0 {
				tells = max(-1, p.Rule[at])
			}
			if r := rule(t, p, text); r != tells {
				t.Errorf("%v, %q: %d, not %d", p, text, r, tells)
			}
			ended[tells >= 0]++
		}
	}
	if led[true] < 2000 || led[false] < 2000 || ended[true] < 2000 || ended[false] < 2000 {
		t.Errorf("%v, %v", led, ended)
	}
}

func TestEachByte(t *testing.T) {
	d := api.Dfa{Class: each(), Next: [][]int{nil, times(256, 1)}, Rule: []int{-1, 6}}
	for b := range 256 {
		d.Next[0] = times(256, 0)
		d.Next[0][b] = 1
		for c := range 256 {
			if s := ran(t, d, 0, string([]byte{byte(c)})); (s == 1) != (b == c) {
				t.Errorf("%d, %d: %d", b, c, s)
			}
		}
	}
}

func TestLongTexts(t *testing.T) {
	// A ring of all states that may be: where one is come to is how long the text was.
	ring := flat(2048, 1)
	for i := range ring.Next {
		ring.Next[i][0], ring.Rule[i] = (i+1)%2048, i%48
	}
	for _, n := range []int{2047, 2048, 2049, api.MaxText, api.MaxText + 1, 1 << 20} {
		text := strings.Repeat("x", n)
		if s, r := ran(t, ring, 5, text), rule(t, ring, text); s != (n+5)%2048 || r != n%2048%48 {
			t.Errorf("%d: %d, %d", n, s, r)
		}
	}
}

func TestPlainOnesStayWhatTheyWere(t *testing.T) {
	d := dice(2)
	for range 300 {
		p := d.plain()
		was := copiedPlain(p)
		text := d.text(d.roll(6), "ab")
		dfa.Check(p)
		dfa.Run(p, d.roll(len(p.Next)), text)
		dfa.Rule(p, text)
		if !reflect.DeepEqual(p, was) {
			t.Errorf("%v became %v", was, p)
		}
	}
}
