package grams_test

import (
	"slices"
	"testing"

	"rootstock/api"
	"rootstock/grams"
)

// someOf are grammars that may be: of few symbols, and of many.
func someOf(t *testing.T, d *dice) []api.Grammar {
	t.Helper()
	l := []api.Grammar{example(), of(1, 2, prod(1, 0)), chain(), ring()}
	for range 150 {
		l = append(l, d.usable(t, 5), d.usable(t, 12), d.usable(t, api.MaxSymbols))
	}
	return l
}

func TestFirstOfBodies(t *testing.T) {
	d := dice(3)
	for _, g := range someOf(t, &d) {
		for head := g.Terms; head < g.Symbols; head++ {
			var want []int
			for _, n := range told(t, grams.Of, g, head) {
				want = append(want, told(t, grams.First, g, g.Prods[n].Body[0])...)
			}
			if l := told(t, grams.First, g, head); !slices.Equal(l, rising(want)) {
				t.Fatalf("%v, %d: %v, not %v", g, head, l, rising(want))
			}
		}
	}
}

// derived is a row that Start becomes, by mixed steps.
func (d *dice) derived(g api.Grammar, most int) []int {
	row := []int{g.Start}
	for range 40 {
		i := d.roll(len(row))
		p := g.Prods[d.roll(len(g.Prods))]
		if row[i] == p.Head && len(row) < most {
			row = slices.Concat(row[:i], p.Body, row[i+1:])
		}
	}
	return row
}

func TestWhatStandsRightBehind(t *testing.T) {
	d := dice(4)
	for _, g := range someOf(t, &d) {
		for range 10 {
			row := d.derived(g, 30)
			for i, s := range row[1:] {
				holdsAll(t, g, told(t, grams.Follow, g, row[i]), told(t, grams.First, g, s))
			}
			holdsAll(t, g, told(t, grams.Follow, g, row[len(row)-1]), []int{g.Terms})
		}
		for _, p := range g.Prods {
			holdsAll(t, g, told(t, grams.Follow, g, p.Body[len(p.Body)-1]), told(t, grams.Follow, g, p.Head))
		}
	}
}

// holdsAll holds that a list has all of another one.
func holdsAll(t *testing.T, g api.Grammar, l, some []int) {
	t.Helper()
	for _, n := range some {
		if !slices.Contains(l, n) {
			t.Fatalf("%v: %v has no %d", g, l, n)
		}
	}
}

func TestOrderAndRightsMakeNoDifference(t *testing.T) {
	d := dice(5)
	for _, g := range someOf(t, &d) {
		other := copied(g)
		for i, p := range other.Prods {
			if d.roll(2) == 0 {
				other.Prods[i] = right(p)
			}
		}
		if d.roll(4) > 0 {
			mix(&d, other.Prods)
		} else {
			slices.Reverse(other.Prods)
		}
		checks(t, other, api.OK)
		for sym := range g.Symbols {
			for i, call := range calls()[1:] {
				if l, w := told(t, call, other, sym), told(t, call, g, sym); !slices.Equal(l, w) {
					t.Fatalf("call %d of %v, %d: %v, not %v", i, other, sym, l, w)
				}
			}
		}
	}
}
