package grams_test

import (
	"reflect"
	"slices"
	"testing"

	"rootstock/api"
	"rootstock/grams"
)

// spoil writes into a list, and into the room behind it.
func spoil(l []int) {
	l = l[:cap(l)]
	for i := range l {
		l[i] = -9
	}
}

func TestAnswersAreMemoryOfTheirOwn(t *testing.T) {
	d := dice(6)
	for _, g := range someOf(t, &d)[:200] {
		was := copied(g)
		for sym := range g.Symbols {
			for i, call := range calls() {
				l, e := call(g, sym)
				want := slices.Clone(l)
				spoil(l)
				again, f := call(g, sym)
				if e != f || !slices.Equal(again, want) {
					t.Fatalf("call %d of %v, %d: %v, %v, not %v, %v", i, g, sym, again, f, want, e)
				}
				// Two that are told are not one.
				other, _ := call(g, sym)
				spoil(again)
				if !slices.Equal(other, want) {
					t.Fatalf("call %d of %v, %d: %v, not %v", i, g, sym, other, want)
				}
			}
		}
		if !reflect.DeepEqual(g, was) {
			t.Fatalf("%v became %v", was, g)
		}
	}
}

func TestGrammarsStay(t *testing.T) {
	d := dice(7)
	for range 2000 {
		g := d.tiny(1+d.roll(3), 1+d.roll(3), 6, 3)
		// What stands behind the lists in their memory is not theirs.
		room := append(g.Prods, prod(77, 78))
		g.Prods = room[:len(room)-1]
		for i, p := range g.Prods {
			g.Prods[i].Body = append(p.Body, 79)[:len(p.Body)]
		}
		was := copied(g)
		was.Prods = append(was.Prods, prod(77, 78))
		for sym := -1; sym <= g.Symbols; sym++ {
			grams.Check(g)
			for _, call := range calls() {
				call(g, sym)
			}
		}
		if g.Terms != was.Terms || g.Symbols != was.Symbols || g.Start != was.Start || !reflect.DeepEqual(room, was.Prods) {
			t.Fatalf("%v became %v", was, g)
		}
		for _, p := range g.Prods {
			if p.Body[:len(p.Body)+1][len(p.Body)] != 79 {
				t.Fatalf("%v: what stood behind a Body is not there any more", g)
			}
		}
	}
}

func TestWhatIsToldIsTheSameEachTime(t *testing.T) {
	d := dice(8)
	for range 500 {
		g := d.tiny(1+d.roll(3), 1+d.roll(3), 6, 3)
		e := grams.Check(g)
		for range 3 {
			// Other grammars between make no difference.
			grams.Follow(d.tiny(2, 2, 4, 2), d.roll(4))
			if f := grams.Check(g); f != e {
				t.Fatalf("%v: %v, not %v", g, f, e)
			}
		}
		for sym := range g.Symbols {
			for i, call := range calls() {
				l, e := call(g, sym)
				call(example(), 4)
				if m, f := call(copied(g), sym); f != e || !slices.Equal(l, m) {
					t.Fatalf("call %d of %v, %d: %v, %v, not %v, %v", i, g, sym, m, f, l, e)
				}
			}
		}
	}
}

func TestListsMayBeOneAndTheSame(t *testing.T) {
	// Bodies of two heads in one memory.
	body := []int{0, 1, 0, 0}
	g := api.Grammar{Terms: 2, Symbols: 4, Start: 3, Prods: []api.Prod{{Head: 3, Body: body[:2]}, {Head: 2, Body: body[:2]}, {Head: 3, Body: body[2:]}, {Head: 3, Body: []int{2, 0}}, {Head: 2, Body: body}}}
	checks(t, g, api.OK)
	first(t, g, []int{0}, []int{1}, []int{0}, []int{0})
	follow(t, g, []int{0, 1, 2}, []int{0, 2}, []int{0}, []int{2})
	if !slices.Equal(body, []int{0, 1, 0, 0}) {
		t.Errorf("%v", body)
	}
}
