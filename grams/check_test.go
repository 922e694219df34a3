package grams_test

import (
	"testing"

	"rootstock/api"
)

func TestExamplesOfCheck(t *testing.T) {
	checks(t, example(), api.OK)
	checks(t, example(prod(5, 5)), api.ErrCycle)
	checks(t, example(prod(4, 4)), api.ErrCycle)
	six := example()
	six.Symbols = 7
	checks(t, six, api.ErrUnused)
	checks(t, example(prod(5)), api.ErrEmpty)
	without := example()
	without.Prods = append(without.Prods[:2:2], without.Prods[3])
	checks(t, without, api.ErrUnused)
	start := example()
	start.Start = 0
	checks(t, start, api.ErrArg)
	checks(t, example(prod(4, 4, 0, 5)), api.ErrArg)
	checks(t, example(right(prod(4, 4, 0, 5))), api.ErrArg)
	checks(t, example(prod(5, times(9, 1)...)), api.ErrLong)
	checks(t, example(prod(5, 6)), api.ErrArg)
}

func TestOrdinaryGrammars(t *testing.T) {
	// One terminal, one head, one production, a Body of one symbol: all at once.
	checks(t, of(1, 2, prod(1, 0)), api.OK)
	checks(t, of(1, 2, right(prod(1, 0))), api.OK)
	checks(t, of(1, 2, prod(1, 0, 0)), api.OK)
	checks(t, of(2, 3, prod(2, 2, 1, 2), prod(2, 0)), api.OK)
	// Terminals that are used nowhere.
	checks(t, of(9, 10, prod(9, 4)), api.OK)
	// Start need not be the first head, nor the head of the first production.
	g := of(1, 4, prod(1, 0), prod(2, 1, 1), prod(3, 2, 1))
	checks(t, g, api.ErrUnused)
	g.Start = 2
	checks(t, g, api.ErrUnused)
	g.Start = 3
	checks(t, g, api.OK)
}

func TestTwins(t *testing.T) {
	checks(t, of(2, 3, prod(2, 0), prod(2, 1), prod(2, 0)), api.ErrArg)
	checks(t, of(2, 3, prod(2, 0), prod(2, 1), right(prod(2, 0))), api.ErrArg)
	checks(t, of(2, 3, right(prod(2, 0)), right(prod(2, 0))), api.ErrArg)
	checks(t, of(2, 3, prod(2, 0, 1), prod(2, 0, 1)), api.ErrArg)
	checks(t, example(prod(5, 2, 4, 3)), api.ErrArg)
	// The same symbols in another order, or more often, and the same Body of another Head are others.
	checks(t, of(2, 3, prod(2, 0, 1), prod(2, 1, 0)), api.OK)
	checks(t, of(2, 3, prod(2, 0), prod(2, 0, 0)), api.OK)
	checks(t, of(2, 3, prod(2, 0, 1), prod(2, 0), prod(2, 1), prod(2, 0, 1, 1)), api.OK)
	checks(t, example(prod(4, 1), prod(4, 2, 4, 3)), api.OK)
	checks(t, of(1, 3, prod(1, 2, 0), prod(1, 0), prod(2, 0)), api.OK)
	// They are looked for among bodies of nothing, and of too much, too.
	checks(t, of(2, 3, prod(2, 0), prod(2), prod(2)), api.ErrArg)
	checks(t, of(2, 3, prod(2, 0), prod(2), right(prod(2, []int{}...))), api.ErrArg)
	checks(t, of(2, 3, prod(2, 0), prod(2, times(20, 1)...), prod(2, times(20, 1)...)), api.ErrArg)
	checks(t, of(2, 3, prod(2, 0), prod(2, times(20, 1)...), prod(2, times(21, 1)...)), api.ErrLong)
}

func TestHeadsThatAreNotComeTo(t *testing.T) {
	checks(t, of(1, 3, prod(1, 0)), api.ErrUnused)
	checks(t, of(1, 3, prod(1, 0), prod(2, 0)), api.ErrUnused)
	checks(t, of(1, 3, prod(1, 0), prod(2, 1)), api.ErrUnused)
	checks(t, of(1, 3, prod(1, 0), prod(2, 2, 0), prod(2, 0)), api.ErrUnused)
	// Two that come to one another.
	checks(t, of(1, 4, prod(1, 0), prod(2, 3, 0), prod(3, 2, 0), prod(2, 0)), api.ErrUnused)
	checks(t, of(1, 4, prod(1, 0), prod(2, 3, 0), prod(3, 2, 0), prod(2, 0), prod(1, 0, 3)), api.OK)
	// By one step, whichever place of whichever body.
	checks(t, of(1, 3, prod(1, 2), prod(2, 0)), api.OK)
	checks(t, of(1, 3, prod(1, 0), prod(1, 0, 0, 0, 2), prod(2, 0)), api.OK)
	checks(t, of(1, 3, prod(1, 0), prod(1, 0, 2, 0), prod(2, 0)), api.OK)
	// By two, whichever production stands first.
	checks(t, of(1, 4, prod(1, 0, 2), prod(2, 0, 3), prod(3, 0)), api.OK)
	checks(t, of(1, 4, prod(3, 0), prod(2, 0, 3), prod(1, 0, 2)), api.OK)
}

func TestHeadsThatAreGoodForNothing(t *testing.T) {
	checks(t, of(1, 2, prod(1, 1)), api.ErrUnused)
	checks(t, of(1, 2, prod(1, 1, 0)), api.ErrUnused)
	checks(t, of(1, 3, prod(1, 2), prod(2, 1)), api.ErrUnused)
	checks(t, of(1, 3, prod(1, 0), prod(1, 2), prod(2, 1, 2)), api.ErrUnused)
	checks(t, of(1, 3, prod(1, 0), prod(1, 2), prod(2, 2)), api.ErrUnused)
	checks(t, of(1, 3, prod(1, 0), prod(1, 0, 2)), api.ErrUnused)
	// By one production alone.
	checks(t, of(1, 2, prod(1, 1, 0), prod(1, 1, 1), prod(1, 0, 1, 0), prod(1, 0)), api.OK)
	checks(t, of(1, 3, prod(1, 2, 1), prod(1, 2, 2), prod(2, 1, 2), prod(2, 2, 2), prod(2, 0)), api.OK)
	// One symbol of a Body that is good for nothing is enough.
	checks(t, of(1, 4, prod(1, 0), prod(1, 2, 0, 3), prod(2, 0), prod(3, 2, 3)), api.ErrUnused)
}

func TestHeadsThatGoRound(t *testing.T) {
	checks(t, of(1, 2, prod(1, 0), prod(1, 1)), api.ErrCycle)
	checks(t, of(1, 3, prod(1, 0), prod(1, 2), prod(2, 1)), api.ErrCycle)
	checks(t, of(1, 3, prod(1, 2), prod(2, 2), prod(2, 0)), api.ErrCycle)
	checks(t, of(1, 4, prod(1, 2), prod(2, 3), prod(3, 1), prod(3, 0)), api.ErrCycle)
	// One to which Start leads, and which does not lead back.
	checks(t, of(1, 4, prod(1, 0, 2), prod(2, 3), prod(3, 2), prod(3, 0)), api.ErrCycle)
	// Among other symbols it is no round.
	checks(t, of(1, 2, prod(1, 0), prod(1, 1, 1)), api.OK)
	checks(t, of(1, 2, prod(1, 0), prod(1, 1, 0), prod(1, 0, 1), prod(1, 0, 1, 0)), api.OK)
	checks(t, of(1, 3, prod(1, 2), prod(2, 1, 0), prod(2, 0)), api.OK)
	checks(t, of(1, 3, prod(1, 2), prod(2, 0, 1), prod(2, 0)), api.OK)
	// Heads that become one head by two ways are none, either.
	checks(t, of(1, 5, prod(1, 2), prod(1, 3), prod(2, 4), prod(3, 4), prod(4, 0)), api.OK)
}
