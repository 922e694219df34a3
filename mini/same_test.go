package mini_test

import (
	"math"
	"reflect"
	"slices"
	"testing"

	"rootstock/api"
	"rootstock/mini"
)

func TestSame(t *testing.T) {
	six := changed(known, func(d *api.Dfa) { d.Rule[2] = 6 })
	ring := func(states int, ruled ...int) api.Dfa {
		d := api.Dfa{Next: rows(states, 1), Rule: times(states, -1)}
		for i := range states {
			d.Next[i][0] = (i + 1) % states
		}
		for _, i := range ruled {
			d.Rule[i] = 5
		}
		return d
	}
	for i, x := range []struct {
		a, b api.Dfa
		is   bool
	}{
		{known, known, true}, {known, knownLeast, true}, {known, six, false}, {known, from(4, known), false}, {from(1, known), from(2, known), true}, {from(3, known), none, true}, {from(3, known), from(3, six), true}, {known, none, false},
		// They begin in unlike states; no rule of the one that the other one has; what is not come to makes no difference.
		{from(1, known), knownLeast, false}, {from(1, known), from(1, knownLeast), true}, {knownLeast, changed(knownLeast, func(d *api.Dfa) { d.Rule[1] = 8 }), false}, {knownLeast, changed(knownLeast, func(d *api.Dfa) { d.Rule[0] = 7 }), false},
		{known, changed(known, func(d *api.Dfa) { d.Rule[4] = 7 }), true}, {known, changed(known, func(d *api.Dfa) { d.Rule[3] = 7 }), false}, {known, changed(known, func(d *api.Dfa) { d.Next[2][0] = -1 }), true},
		// One byte of 256.
		{knownLeast, changed(knownLeast, func(d *api.Dfa) { d.Class[255] = 1 }), false}, {knownLeast, changed(knownLeast, func(d *api.Dfa) { d.Class[0] = 1 }), false}, {knownLeast, changed(knownLeast, func(d *api.Dfa) { d.Class['a'] = 0 }), false},
		// Rings that go round by unlike lengths.
		{ring(3, 0), ring(6, 0, 3), true}, {ring(3, 0), ring(6, 0), false}, {ring(3, 0), ring(3, 1), false}, {ring(3, 1), from(2, ring(3, 0)), true}, {ring(4, 0, 1, 2, 3), ring(1, 0), true}, {ring(7), ring(2), true}, {ring(30, 29), ring(60, 29, 59), true}, {ring(30, 29), ring(60, 29, 58), false},
		// Below 0 by other numbers.
		{api.Dfa{Next: [][]int{{-9}}, Rule: []int{math.MinInt}}, none, true}, {api.Dfa{Next: [][]int{{-9}}, Rule: []int{0}}, none, false},
	} {
		if is := same(t, x.a, x.b); is != x.is || tellSame(x.a, x.b) != x.is {
			t.Errorf("%d: %v", i, is)
		}
		if is := same(t, x.b, x.a); is != x.is {
			t.Errorf("%d, turned: %v", i, is)
		}
	}
}

// wrong are automata that may not be, in each way.
func wrong() []api.Dfa {
	three := api.Dfa{Class: classes("a"), Next: [][]int{{0, 1}, {2, -1}, {-1, 0}}, Rule: []int{-1, 5, 0}}
	l := []api.Dfa{
		// No state; not as many rows as rules.
		{}, {Next: [][]int{}, Rule: []int{}}, {Rule: []int{0}}, {Next: [][]int{{0}}}, {Next: [][]int{{0}, {0}}, Rule: []int{0}}, {Next: [][]int{{0}}, Rule: []int{0, 0}}, {Next: rows(2048, 1), Rule: times(2047, 0)}, {Next: rows(2047, 1), Rule: times(2048, 0)},
		// No place; too many; rows of unlike lengths.
		{Next: [][]int{{}}, Rule: []int{0}}, {Next: [][]int{nil, nil}, Rule: []int{0, 0}}, flat(1, 257), flat(2048, 257), {Next: [][]int{{0}, {}}, Rule: []int{0, 0}}, {Next: [][]int{{0}, {0, 0}}, Rule: []int{0, 0}}, {Next: [][]int{{0, 0}, {0}}, Rule: []int{0, 0}},
	}
	for _, start := range []int{3, -1, math.MaxInt, math.MinInt} {
		l = append(l, from(start, three))
	}
	for at := range 3 {
		for _, n := range []int{3, math.MaxInt} {
			l = append(l, changed(three, func(d *api.Dfa) { d.Next[at][1] = n }))
		}
		for _, n := range []int{48, math.MaxInt} {
			l = append(l, changed(three, func(d *api.Dfa) { d.Rule[at] = n }))
		}
	}
	for _, b := range []byte{0, 'a', 255} {
		l = append(l, changed(three, func(d *api.Dfa) { d.Class[b] = 2 }), changed(flat(1, 1), func(d *api.Dfa) { d.Class[b] = 1 }), changed(flat(1, 255), func(d *api.Dfa) { d.Class[b] = 255 }))
	}
	// What is not come to counts, too.
	return append(l, changed(flat(2, 2), func(d *api.Dfa) { d.Next[1][1] = 2 }), changed(flat(2, 1), func(d *api.Dfa) { d.Rule[1] = 48 }), changed(flat(1, 2), func(d *api.Dfa) { d.Next[0][1] = 1 }))
}

// long are automata of too many states, whatever else there is.
func long() []api.Dfa {
	return []api.Dfa{
		flat(2049, 1), flat(4096, 2), {Next: rows(2049, 1)}, {Rule: times(2049, 0)}, {Next: rows(2048, 1), Rule: times(2049, 0)}, {Next: rows(2049, 1), Rule: times(2048, 0)}, from(-1, flat(2049, 1)), {Next: make([][]int, 2049), Rule: times(2049, 48)},
	}
}

func TestWhatMayNotBe(t *testing.T) {
	good := []api.Dfa{known, knownLeast, none}
	for want, bad := range map[api.Errno][]api.Dfa{api.ErrArg: wrong(), api.ErrLong: long()} {
		for i, d := range bad {
			before := copied(d)
			if l, e := mini.Least(d); e != want || !reflect.DeepEqual(l, api.Dfa{}) {
				t.Errorf("%d: %v, %v, not %v", i, l, e, want)
			}
			for _, g := range good {
				if is, e := mini.Same(d, g); is || e != want {
					t.Errorf("%d, the first one: %v, %v, not %v", i, is, e, want)
				}
				if is, e := mini.Same(g, d); is || e != want {
					t.Errorf("%d, the second one: %v, %v, not %v", i, is, e, want)
				}
			}
			if is, e := mini.Same(d, d); is || e != want {
				t.Errorf("%d, both: %v, %v, not %v", i, is, e, want)
			}
			if !reflect.DeepEqual(copied(d), before) {
				t.Errorf("%d: it became %v", i, d)
			}
		}
	}
	// The first one's error comes ahead.
	for i, a := range wrong() {
		for j, b := range long() {
			if is, e := mini.Same(a, b); is || e != api.ErrArg {
				t.Errorf("%d, %d: %v, %v", i, j, is, e)
			}
			if is, e := mini.Same(b, a); is || e != api.ErrLong {
				t.Errorf("%d, %d, turned: %v, %v", i, j, is, e)
			}
		}
	}
}

// row is an automaton of as many states, one behind the other, by all bytes; rules end at those of which a number is told.
func row(states, places int, ruled func(i int) int) api.Dfa {
	d := api.Dfa{Next: rows(states, places)}
	for b := range d.Class {
		d.Class[b] = uint8(b % places)
	}
	for i := range states {
		for c := range places {
			if i+1 < states {
				d.Next[i][c] = i + 1
			}
		}
		d.Rule = append(d.Rule, ruled(i))
	}
	return d
}

func TestTheGreatest(t *testing.T) {
	never := func(int) int { return -1 }
	always := func(int) int { return 47 }
	last := func(i int) int { return i/2047 - 1 }
	for _, places := range []int{1, 2, 256} {
		is(t, "nothing", flat(2048, places), none)
		is(t, "a row without a rule", row(2048, places, never), none)
		// All are told apart by how far off the end is: by as long a text as there are states.
		for i, ruled := range []func(int) int{last, always, func(i int) int { return i % 2 }} {
			is(t, i, row(2048, places, ruled), row(2048, 1, ruled))
		}
		ring := row(2048, places, last)
		for c := range places {
			ring.Next[2047][c] = 0
		}
		is(t, "a ring", ring, changed(row(2048, 1, last), func(d *api.Dfa) { d.Next[2047][0] = 0 }))
		ring.Rule = times(2048, 3)
		is(t, "a ring, all alike", ring, api.Dfa{Next: [][]int{{0}}, Rule: []int{3}})
		for i := range 2048 {
			ring.Rule[i] = i%4 - 1
		}
		is(t, "a ring by fours", ring, api.Dfa{Next: [][]int{{1}, {2}, {3}, {0}}, Rule: []int{-1, 0, 1, 2}})
		if !same(t, ring, changed(ring, func(d *api.Dfa) { d.Start = 4 })) || same(t, ring, changed(ring, func(d *api.Dfa) { d.Rule[2046] = -1 })) {
			t.Error("rings")
		}
	}
	// As many states and classes as may be, of which none are alike.
	full := api.Dfa{Class: each()}
	for i := range 2048 {
		var row []int
		for b := range 256 {
			row = append(row, (8*i+b*b+b*i)%2048)
		}
		full.Next = append(full.Next, row)
		full.Rule = append(full.Rule, i%48)
	}
	l := least(t, full)
	if len(l.Next) != 2048 || len(l.Next[0]) != 256 || !same(t, full, l) {
		t.Errorf("%d states, %d classes", len(l.Next), len(l.Next[0]))
	}
	is(t, "its least", l, l)
	d := dice(1)
	for range 20 {
		text := d.text(20, "abc\x00\xff")
		if rule(t, l, text) != rule(t, full, text) {
			t.Errorf("%q", text)
		}
	}
	// Those that only the last state's rule tells apart, with a step of its own by each byte.
	steps := flat(2048, 256)
	steps.Class, steps.Rule[2047] = each(), 0
	for i, row := range steps.Next {
		for b := range min(256, 2047-i) {
			row[b] = i + 1 + b
		}
	}
	is(t, "steps", steps, steps)
	// A tree: each state has two ways of its own, and the ends have 48 rules by turns.
	tree := flat(2047, 2)
	tree.Class = classes("a")
	for i := range 1023 {
		tree.Next[i] = []int{2*i + 1, 2*i + 2}
	}
	for i := 1023; i < 2047; i++ {
		tree.Rule[i] = i % 32
	}
	// Of each of the five lowest floors the states are as many as the texts below differ: one of each 32 ends, then 16, 8, 4, 2 and 1 kinds; above them all are one a floor.
	if l := least(t, tree); len(l.Next) != 32+16+8+4+2+1+5 {
		t.Errorf("%d states", len(l.Next))
	}
}

func TestSmallOnesByTheirTexts(t *testing.T) {
	var ways [][]int
	for x := -1; x < 3; x++ {
		for y := -1; y < 3; y++ {
			ways = append(ways, []int{x, y})
		}
	}
	class := classes("a")
	kinds := map[int]int{}
	for i, first := range ways {
		for j, second := range ways {
			for k, third := range ways {
				if (i+j+k)%3 != 0 {
					continue
				}
				d := api.Dfa{Class: class, Next: [][]int{first, second, third}, Rule: []int{-1, 5 * (i % 2), -1 + j%3}}
				l := least(t, d)
				kinds[len(l.Next)]++
				if !reflect.DeepEqual(l, bySmallTexts(d)) {
					t.Fatalf("%v: %v", d, l)
				}
			}
		}
	}
	if len(kinds) != 3 || kinds[1] < 10 || kinds[2] < 100 || kinds[3] < 100 {
		t.Errorf("%v", kinds)
	}
}

// bySmallTexts is the least automaton of one of three states and two classes, a and all else, reckoned from what it tells of all texts of at most four bytes alone: its states are what is told behind the texts, in the order of these.
func bySmallTexts(d api.Dfa) api.Dfa {
	small := texts(4, "Ba")
	behind := func(ahead string) []int {
		var l []int
		for _, text := range small {
			at := d.Start
			for _, b := range []byte(ahead + text) {
				if at >= 0 {
					at = d.Next[at][d.Class[b]]
				}
			}
			l = append(l, -1)
			if at >= 0 {
				l[len(l)-1] = max(-1, d.Rule[at])
			}
		}
		return l
	}
	var states [][]int
	var names []string
	find := func(told []int) int {
		return slices.IndexFunc(states, func(l []int) bool { return slices.Equal(l, told) })
	}
	for _, ahead := range small {
		told := behind(ahead)
		if find(told) < 0 && (ahead == "" || slices.Max(told) >= 0) {
			states, names = append(states, told), append(names, ahead)
		}
	}
	var rows [][256]int
	out := api.Dfa{}
	for i, name := range names {
		var row [256]int
		for b := range 256 {
			row[b] = find(behind(name + "B"))
		}
		row['a'] = find(behind(name + "a"))
		for b := range 256 {
			// Where nothing is told it leads nowhere, though Start be such.
			if row[b] >= 0 && slices.Max(states[row[b]]) < 0 {
				row[b] = -1
			}
		}
		rows = append(rows, row)
		out.Rule = append(out.Rule, states[i][0])
	}
	out.Class, out.Next = classed(rows)
	return out
}
