package grams_test

import (
	"slices"
	"testing"

	"rootstock/api"
	"rootstock/grams"
)

func TestExamplesOfWhatIsAsked(t *testing.T) {
	g := example()
	if l := told(t, grams.Of, g, 4); !slices.Equal(l, []int{0, 1}) {
		t.Errorf("%v", l)
	}
	if l, e := grams.Of(g, 0); e != api.ErrArg || l != nil {
		t.Errorf("%v, %v", l, e)
	}
	first(t, g, []int{0}, []int{1}, []int{2}, []int{3}, []int{1, 2}, []int{1, 2})
	follow(t, g, []int{1, 2}, []int{0, 3, 4}, []int{1, 2}, []int{0, 3, 4}, []int{0, 3, 4}, []int{0, 3, 4})
}

func TestOf(t *testing.T) {
	// A head's productions may stand anywhere.
	g := of(2, 5, prod(4, 1), prod(2, 3, 4), prod(3, 0), prod(2, 4), prod(4, 0, 0), prod(3, 1), prod(4, 0, 1))
	for head, want := range [][]int{2: {1, 3}, 3: {2, 5}, 4: {0, 4, 6}} {
		if head < g.Terms {
			continue
		}
		if l := told(t, grams.Of, g, head); !slices.Equal(l, want) {
			t.Errorf("%d: %v, not %v", head, l, want)
		}
	}
}

func TestFirstAndFollowOfSmallGrammars(t *testing.T) {
	// One production.
	g := of(1, 2, prod(1, 0))
	first(t, g, []int{0}, []int{0})
	follow(t, g, []int{1}, []int{1})
	// A terminal that follows itself.
	g = of(1, 2, prod(1, 0, 0))
	first(t, g, []int{0}, []int{0})
	follow(t, g, []int{0, 1}, []int{1})
	// Terminals that are used nowhere are first of themselves alone, and nothing follows them.
	g = of(3, 4, prod(3, 1))
	first(t, g, []int{0}, []int{1}, []int{2}, []int{1})
	follow(t, g, nil, []int{3}, nil, []int{3})
	// A symbol that is first of its own rows.
	g = of(2, 3, prod(2, 2, 1), prod(2, 0))
	first(t, g, []int{0}, []int{1}, []int{0})
	follow(t, g, []int{1, 2}, []int{1, 2}, []int{1, 2})
	// One that is the last of them.
	g = of(2, 3, prod(2, 1, 2), prod(2, 0))
	first(t, g, []int{0}, []int{1}, []int{0, 1})
	follow(t, g, []int{2}, []int{0, 1}, []int{2})
	// One that follows itself, and does so by its last symbol.
	g = of(2, 3, prod(2, 2, 2), prod(2, 0, 1))
	first(t, g, []int{0}, []int{1}, []int{0})
	follow(t, g, []int{1}, []int{0, 2}, []int{0, 2})
	g = of(2, 4, prod(2, 3, 3), prod(3, 0, 2), prod(3, 1))
	first(t, g, []int{0}, []int{1}, []int{0, 1}, []int{0, 1})
	follow(t, g, []int{0, 1}, []int{0, 1, 2}, []int{0, 1, 2}, []int{0, 1, 2})
}

func TestTheEnd(t *testing.T) {
	// Of one that stands at no row's end no end is told; at the end by one step, and by many.
	g := of(3, 6, prod(3, 4, 0), prod(4, 1, 5), prod(5, 2))
	first(t, g, []int{0}, []int{1}, []int{2}, []int{1}, []int{1}, []int{2})
	follow(t, g, []int{3}, []int{2}, []int{0}, []int{3}, []int{0}, []int{0})
	g = of(3, 6, prod(3, 0, 4), prod(4, 1, 5), prod(5, 2))
	follow(t, g, []int{1}, []int{2}, []int{3}, []int{3}, []int{3}, []int{3})
	// Start may stand where it is not at the end; it is at its own row's end all the same.
	g = of(2, 4, prod(2, 3, 0), prod(3, 2, 1), prod(3, 1))
	first(t, g, []int{0}, []int{1}, []int{1}, []int{1})
	follow(t, g, []int{1, 2}, []int{0}, []int{1, 2}, []int{0})
}

func TestFirstThroughManyHeads(t *testing.T) {
	// What stands behind the first symbol of a Body is not among the first ones, and is behind all that the first one ends with.
	g := of(4, 8, prod(4, 5, 3), prod(5, 6, 2), prod(6, 7, 1), prod(7, 0, 0), prod(7, 1))
	first(t, g, []int{0}, []int{1}, []int{2}, []int{3}, []int{0, 1}, []int{0, 1}, []int{0, 1}, []int{0, 1})
	follow(t, g, []int{0, 1}, []int{1, 2}, []int{3}, []int{4}, []int{4}, []int{3}, []int{2}, []int{1})
}
