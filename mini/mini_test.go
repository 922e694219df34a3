package mini_test

import (
	"math"
	"reflect"
	"slices"
	"testing"

	"rootstock/api"
)

// known is the automaton of the chapter's example.
var known = api.Dfa{Class: classes("a"), Next: [][]int{{-1, 1}, {-1, 2}, {3, 1}, {-1, 3}, {-1, 0}}, Rule: []int{-1, 7, 7, -1, -1}}

// knownLeast is the least one that tells the same.
var knownLeast = api.Dfa{Class: classes("a"), Next: [][]int{{-1, 1}, {-1, 1}}, Rule: []int{-1, 7}}

// none is the least automaton that tells no rule of any text.
var none = flat(1, 1)

// is holds that the least automaton of one is another one, number by number.
func is(t *testing.T, what any, d, want api.Dfa) {
	t.Helper()
	if l := least(t, d); !reflect.DeepEqual(l, want) {
		t.Errorf("%v: %v, not %v", what, l, want)
	}
}

// from is an automaton that begins elsewhere.
func from(start int, d api.Dfa) api.Dfa {
	return changed(d, func(d *api.Dfa) { d.Start = start })
}

func TestLeast(t *testing.T) {
	is(t, "the example", known, knownLeast)
	is(t, "with Start 3", from(3, known), none)
	is(t, "with Start 1", from(1, known), api.Dfa{Class: classes("a"), Next: [][]int{{-1, 0}}, Rule: []int{7}})
	is(t, "with Start 2", from(2, known), api.Dfa{Class: classes("a"), Next: [][]int{{-1, 0}}, Rule: []int{7}})
	is(t, "with Start 4", from(4, known), api.Dfa{Class: classes("a"), Next: [][]int{{-1, 1}, {-1, 2}, {-1, 2}}, Rule: []int{-1, -1, 7}})
	is(t, "with Rule 6 at 2", changed(known, func(d *api.Dfa) { d.Rule[2] = 6 }), api.Dfa{Class: classes("a"), Next: [][]int{{-1, 1}, {-1, 2}, {-1, 1}}, Rule: []int{-1, 7, 6}})
}

func TestOneState(t *testing.T) {
	one := func(rule int, next ...int) api.Dfa { return api.Dfa{Next: [][]int{next}, Rule: []int{rule}} }
	is(t, "nothing", flat(1, 1), none)
	is(t, "nothing, of 256 classes", changed(flat(1, 256), func(d *api.Dfa) { d.Class = each() }), none)
	is(t, "a ring without a rule", one(-1, 0), none)
	is(t, "a rule, nowhere", one(0, -1), one(0, -1))
	is(t, "the last rule, nowhere", one(47, -1), one(47, -1))
	is(t, "below 0 by other numbers", one(math.MinInt, math.MinInt), none)
	is(t, "a rule, and below 0", one(3, -9), one(3, -1))
	is(t, "a ring", one(3, 0), one(3, 0))
	is(t, "a ring of 256 classes", api.Dfa{Class: each(), Next: [][]int{make([]int, 256)}, Rule: []int{5}}, one(5, 0))
	is(t, "classes by turns", api.Dfa{Class: classes("b", "a"), Next: [][]int{{-5, 0, -7}}, Rule: []int{5}}, api.Dfa{Class: classes("b"), Next: [][]int{{-1, 0}}, Rule: []int{5}})
}

func TestStart(t *testing.T) {
	// One that is not live is a state, though ways from live ones lead to it.
	is(t, "not live, with ways", api.Dfa{Class: classes("a"), Next: [][]int{{0, 1}, {1, 0}}, Rule: []int{-1, -8}}, none)
	is(t, "not live, a way from a live one", api.Dfa{Start: 1, Class: classes("a"), Next: [][]int{{0, 1}, {-1, 1}}, Rule: []int{4, -1}}, none)
	is(t, "not live, as the rule is one of a class that no byte has", api.Dfa{Next: [][]int{{0, 1}, {1, 1}}, Rule: []int{-1, 4}}, none)
	// It is 0, wherever it stands.
	is(t, "the last state", api.Dfa{Start: 2, Class: classes("a"), Next: [][]int{{-1, -1}, {-1, 0}, {1, 0}}, Rule: []int{9, -1, 8}}, api.Dfa{Class: classes("a"), Next: [][]int{{1, 2}, {-1, 2}, {-1, -1}}, Rule: []int{8, -1, 9}})
	// Ways lead back to it, or to one that is alike: it is that state, too.
	is(t, "ways back", api.Dfa{Start: 1, Class: classes("a", "b"), Next: [][]int{{-1, -1, 1}, {-1, 0, 1}}, Rule: []int{2, -1}}, api.Dfa{Class: classes("a", "b"), Next: [][]int{{-1, 1, 0}, {-1, -1, 0}}, Rule: []int{-1, 2}})
	is(t, "one alike", api.Dfa{Start: 1, Class: classes("a", "b"), Next: [][]int{{-1, -1, 2}, {-1, 0, 2}, {-1, 0, 2}}, Rule: []int{2, -1, -1}}, api.Dfa{Class: classes("a", "b"), Next: [][]int{{-1, 1, 0}, {-1, -1, 0}}, Rule: []int{-1, 2}})
	is(t, "one alike, far off", api.Dfa{Class: classes("a"), Next: [][]int{{-1, 1}, {-1, 2}, {-1, 3}, {-1, 4}, {-1, 5}, {-1, 3}}, Rule: []int{6, -1, -1, 6, -1, -1}}, api.Dfa{Class: classes("a"), Next: [][]int{{-1, 1}, {-1, 2}, {-1, 0}}, Rule: []int{6, -1, -1}})
	is(t, "all alike", api.Dfa{Start: 2, Next: [][]int{{1}, {2}, {0}}, Rule: []int{6, 6, 6}}, api.Dfa{Next: [][]int{{0}}, Rule: []int{6}})
}

func TestStatesThatAreLeftOut(t *testing.T) {
	two := api.Dfa{Class: classes("a"), Next: [][]int{{-1, 1}, {-1, -1}}, Rule: []int{-1, 3}}
	is(t, "as it is", two, two)
	// Such as are not come to, though they be live, or lead to those that are.
	is(t, "not come to", api.Dfa{Start: 1, Class: classes("a"), Next: [][]int{{1, 2}, {-1, 2}, {-1, -1}, {3, 3}}, Rule: []int{5, -1, 3, 9}}, two)
	is(t, "come to by a class that no byte has", api.Dfa{Class: classes("a"), Next: [][]int{{-1, 1, 2}, {-1, -1, 2}, {0, 1, 2}}, Rule: []int{-1, 3, 4}}, two)
	is(t, "come to from one that is not come to", api.Dfa{Class: classes("a"), Next: [][]int{{-1, 1}, {-1, -1}, {3, 3}, {2, 2}}, Rule: []int{-1, 3, 4, 5}}, two)
	// Such as are not live: the ways to them lead nowhere.
	is(t, "a dead end", api.Dfa{Class: classes("a"), Next: [][]int{{2, 1}, {2, 2}, {-1, -1}}, Rule: []int{-1, 3, -1}}, two)
	is(t, "dead rings", api.Dfa{Class: classes("a"), Next: [][]int{{3, 1}, {2, 3}, {2, 3}, {3, 2}}, Rule: []int{-1, 3, -2, -3}}, two)
	is(t, "a rule by a class that no byte has", api.Dfa{Class: classes("a"), Next: [][]int{{2, 1, 0}, {2, 2, 1}, {-1, 2, 1}}, Rule: []int{-1, 3, -1}}, two)
	// Live by a text of many bytes.
	far := flat(40, 2)
	far.Class = classes("a")
	for i := range 39 {
		far.Next[i][1] = i + 1
	}
	far.Rule[39] = 1
	is(t, "a rule far off", far, far)
	is(t, "no rule far off", changed(far, func(d *api.Dfa) { d.Rule[39] = -1 }), none)
	is(t, "no way to the rule far off", changed(far, func(d *api.Dfa) { d.Next[30][1] = -1 }), none)
}

func TestStatesThatAreAlike(t *testing.T) {
	// Of the same rule, or of none, with ways to the same.
	is(t, "two ends", api.Dfa{Class: classes("a", "b"), Next: [][]int{{-1, 1, 2}, {-1, -1, -1}, {-1, -1, -1}}, Rule: []int{-1, 3, 3}}, api.Dfa{Class: classes("ab"), Next: [][]int{{-1, 1}, {-1, -1}}, Rule: []int{-1, 3}})
	is(t, "two ends of two rules", api.Dfa{Class: classes("a", "b"), Next: [][]int{{-1, 1, 2}, {-1, -1, -1}, {-1, -1, -1}}, Rule: []int{-1, 3, 4}}, api.Dfa{Class: classes("a", "b"), Next: [][]int{{-1, 1, 2}, {-1, -1, -1}, {-1, -1, -1}}, Rule: []int{-1, 3, 4}})
	is(t, "two ends, one without a rule", api.Dfa{Class: classes("a", "b"), Next: [][]int{{-1, 1, 2}, {-1, -1, -1}, {-1, -1, -1}}, Rule: []int{-1, 0, -1}}, api.Dfa{Class: classes("a"), Next: [][]int{{-1, 1}, {-1, -1}}, Rule: []int{-1, 0}})
	is(t, "two that no rule ends at, below 0 by other numbers", api.Dfa{Class: classes("a", "b"), Next: [][]int{{-1, 1, 2}, {-3, 3, -1}, {-2, 3, -7}, {-4, -4, -4}}, Rule: []int{-1, -2, -3, 3}}, api.Dfa{Class: classes("a", "b"), Next: [][]int{{-1, 1, 1}, {-1, 2, -1}, {-1, -1, -1}}, Rule: []int{-1, -1, 3}})
	is(t, "a way nowhere, and one to where it is not live", api.Dfa{Class: classes("a", "b"), Next: [][]int{{-1, 1, 2}, {-1, 3, -1}, {4, 3, -1}, {-1, -1, -1}, {4, 4, 4}}, Rule: []int{-1, -1, -1, 3, -1}}, api.Dfa{Class: classes("a", "b"), Next: [][]int{{-1, 1, 1}, {-1, 2, -1}, {-1, -1, -1}}, Rule: []int{-1, -1, 3}})
	// Alike but for ways by a class that no byte has.
	is(t, "no byte tells them apart", api.Dfa{Class: classes("a", "b"), Next: [][]int{{-1, 1, 2, -1}, {-1, 3, -1, 0}, {-1, 3, -1, 3}, {-1, -1, -1, -1}}, Rule: []int{-1, -1, -1, 3}}, api.Dfa{Class: classes("a", "b"), Next: [][]int{{-1, 1, 1}, {-1, 2, -1}, {-1, -1, -1}}, Rule: []int{-1, -1, 3}})
	// Each leads to the other one.
	is(t, "a ring of two", api.Dfa{Class: classes("a"), Next: [][]int{{-1, 1}, {2, 1}, {1, 2}}, Rule: []int{-1, 3, 3}}, api.Dfa{Class: classes("a"), Next: [][]int{{-1, 1}, {1, 1}}, Rule: []int{-1, 3}})
	// Two rows beside one another, apart by what ends there alone.
	for _, x := range []struct{ left, right, states int }{{3, 3, 12}, {3, 4, 23}, {3, -1, 12}, {-1, 4, 12}, {-1, -1, 1}} {
		d := flat(23, 2)
		d.Class = classes("a")
		d.Next[0] = []int{1, 12}
		for i := 1; i < 22; i++ {
			if i != 11 {
				d.Next[i] = []int{i + 1, i + 1}
			}
		}
		d.Rule[11], d.Rule[22] = x.left, x.right
		l := least(t, d)
		if want := wordsOf(d).least(); !reflect.DeepEqual(l, want) || len(l.Next) != x.states {
			t.Errorf("%d, %d: %v, not %v", x.left, x.right, l, want)
		}
	}
}

func TestClasses(t *testing.T) {
	two := api.Dfa{Class: classes("ab"), Next: [][]int{{-1, 1}, {-1, -1}}, Rule: []int{-1, 3}}
	// Bytes are of one class that lead to the same, though they were of two; they are numbered by their least bytes.
	is(t, "two of a kind", api.Dfa{Class: classes("a", "b"), Next: [][]int{{-1, 1, 1}, {-1, -1, -1}}, Rule: []int{-1, 3}}, two)
	is(t, "two that lead to states that are alike", api.Dfa{Class: classes("a", "b"), Next: [][]int{{-1, 1, 2}, {-1, -1, -1}, {-1, -1, -1}}, Rule: []int{-1, 3, 3}}, two)
	is(t, "two that lead nowhere in unlike ways", api.Dfa{Class: classes("ab", "c"), Next: [][]int{{-1, 1, 2}, {-2, -1, 2}, {2, 2, 2}}, Rule: []int{-1, 3, -1}}, two)
	is(t, "two that are told apart where nothing is come to", api.Dfa{Class: classes("a", "b"), Next: [][]int{{-1, 1, 1}, {-1, -1, -1}, {0, 1, 2}}, Rule: []int{-1, 3, 4}}, two)
	is(t, "each byte of its own", api.Dfa{Class: each(), Next: [][]int{slices.Concat(times('a', -1), times(2, 1), times(157, -2)), times(256, -1)}, Rule: []int{-1, 3}}, two)
	numbered := changed(two, func(d *api.Dfa) {
		for b := range 256 {
			d.Class[b] = 1 - d.Class[b]
		}
		d.Next[0] = []int{1, -1}
	})
	is(t, "numbered otherwise", numbered, two)
	is(t, "with classes that no byte has", api.Dfa{Class: classes("", "", "ab"), Next: [][]int{{-1, 0, 1, 1, 0}, {-1, 1, 0, -1, 1}}, Rule: []int{-1, 3}}, two)
	// The first byte and the last one.
	ends := classes("\x00", "\xff")
	is(t, "the ends", api.Dfa{Class: ends, Next: [][]int{{-1, 1, 0}, {-1, -1, -1}}, Rule: []int{-1, 3}}, api.Dfa{Class: func() [256]uint8 {
		c := [256]uint8(times(256, uint8(1)))
		c[0], c[255] = 0, 2
		return c
	}(), Next: [][]int{{1, -1, 0}, {-1, -1, -1}}, Rule: []int{-1, 3}})
}

func TestNumbersOfStates(t *testing.T) {
	// Byte by byte, whatever their numbers were, and those of the classes.
	is(t, "bytes", api.Dfa{Class: classes("c", "b", "a"), Next: [][]int{{-1, 1, 2, 3}, {-1, -1, -1, -1}, {-1, -1, -1, -1}, {-1, -1, -1, -1}}, Rule: []int{-1, 10, 11, 12}}, api.Dfa{Class: classes("a", "b", "c"), Next: [][]int{{-1, 1, 2, 3}, {-1, -1, -1, -1}, {-1, -1, -1, -1}, {-1, -1, -1, -1}}, Rule: []int{-1, 12, 11, 10}})
	// State by state: those to which one byte leads are ahead of those to which two lead.
	is(t, "states", api.Dfa{Class: classes("a", "b"), Next: [][]int{{-1, 3, 1}, {-1, -1, -1}, {-1, -1, -1}, {-1, 2, -1}}, Rule: []int{-1, 10, 11, 12}}, api.Dfa{Class: classes("a", "b"), Next: [][]int{{-1, 1, 2}, {-1, 3, -1}, {-1, -1, -1}, {-1, -1, -1}}, Rule: []int{-1, 12, 10, 11}})
	// One that is alike to another one has the number of the one that is come to first, and one that is not live has none.
	is(t, "alike and not live", api.Dfa{Class: classes("a", "b", "c"), Next: [][]int{{4, 4, 2, 1}, {-1, 3, -1, -1}, {-1, 1, -1, -1}, {-1, 1, -1, -1}, {4, 4, 4, 4}}, Rule: []int{-1, 5, -1, -1, -1}}, api.Dfa{Class: classes("a", "b", "c"), Next: [][]int{{-1, -1, 1, 2}, {-1, 2, -1, -1}, {-1, 1, -1, -1}}, Rule: []int{-1, -1, 5}})
}

func TestWhatIsHandedOut(t *testing.T) {
	d := copied(known)
	l := least(t, d)
	if !reflect.DeepEqual(d, known) {
		t.Errorf("the argument became %v", d)
	}
	small := copied(knownLeast)
	m := least(t, small)
	for _, out := range []api.Dfa{l, m} {
		for i := range out.Next {
			// What is put behind a row, and written into it, is in no other one.
			_ = append(out.Next[i], 9, 9, 9)
			for c := range out.Next[i] {
				out.Next[i][c] = 40 + i
			}
		}
		_ = append(out.Rule, 9)
		out.Rule[0], out.Rule[1] = 8, 9
		if !reflect.DeepEqual(out.Next, [][]int{{40, 40}, {41, 41}}) {
			t.Errorf("%v", out.Next)
		}
	}
	if !reflect.DeepEqual(d, known) || !reflect.DeepEqual(small, knownLeast) {
		t.Errorf("the argument became %v, %v", d, small)
	}
	is(t, "the example again", d, knownLeast)
	a, b := copied(known), copied(knownLeast)
	same(t, a, b)
	if !reflect.DeepEqual(a, known) || !reflect.DeepEqual(b, knownLeast) {
		t.Errorf("the arguments became %v, %v", a, b)
	}
}
