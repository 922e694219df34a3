package derive_test

import (
	"math"
	"slices"
	"testing"

	"rootstock/api"
	"rootstock/derive"
)

func TestTreesThatFit(t *testing.T) {
	g := sums()
	a := number()
	for _, x := range []api.Tree{leaf(0), leaf(1), a, sum(a, a), sum(sum(a, a), a), sum(a, sum(a, a)), sum(sum(a, sum(a, a)), sum(sum(a, a), a))} {
		fits(t, g, x, api.OK)
	}
	yields(t, sum(sum(a, a), a), 0, 1, 0, 1, 0)
	// A list of no Kids may be one that is not nil.
	fits(t, g, api.Tree{Sym: 1, Prod: -1, Kids: []api.Tree{}}, api.OK)
	// A root may be any symbol, and not just Start.
	h := of(2, 4, prod(2, 3, 3), prod(3, 1))
	fits(t, h, tree(3, 1, leaf(1)), api.OK)
	fits(t, h, tree(2, 0, tree(3, 1, leaf(1)), tree(3, 1, leaf(1))), api.OK)
}

// held is a tree, and what Fits is to tell of it.
type held struct {
	x    api.Tree
	want api.Errno
}

// faulty are trees that are none of E's.
func faulty() []held {
	a := number()
	return []held{
		{leaf(3), api.ErrArg},
		{leaf(-1), api.ErrArg},
		{leaf(math.MaxInt), api.ErrArg},
		{leaf(math.MinInt), api.ErrArg},
		{leaf(64), api.ErrArg},
		{leaf(1 << 32), api.ErrArg},
		{tree(3, 0, a, leaf(1), a), api.ErrArg},
		{tree(-2, 7), api.ErrArg},
		{leaf(2), api.ErrArg},
		{tree(2, -1, leaf(0)), api.ErrArg},
		{tree(2, -1, leaf(9)), api.ErrArg},
		{tree(2, 2, leaf(0)), api.ErrArg},
		{tree(2, 64, leaf(0)), api.ErrArg},
		{tree(2, math.MaxInt, leaf(0)), api.ErrArg},
		{tree(2, math.MinInt, leaf(0)), api.ErrArg},
		{tree(2, 1<<32, a, leaf(1), a), api.ErrArg},
		{tree(2, 1<<32+1, leaf(0)), api.ErrArg},
		// Terminals.
		{tree(0, 0), api.ErrBroken},
		{tree(0, 1), api.ErrBroken},
		{tree(0, -2), api.ErrBroken},
		{tree(0, 2), api.ErrBroken},
		{tree(0, math.MinInt), api.ErrBroken},
		{tree(1, math.MaxInt), api.ErrBroken},
		{tree(0, -1, leaf(0)), api.ErrBroken},
		{tree(0, 1, leaf(0)), api.ErrBroken},
		{tree(1, -1, leaf(9)), api.ErrBroken},
		{tree(1, -1, a, a), api.ErrBroken},
		// Heads with other Kids than the Body has.
		{tree(2, 1), api.ErrBroken},
		{tree(2, 0), api.ErrBroken},
		{tree(2, 1, leaf(1)), api.ErrBroken},
		{tree(2, 1, a), api.ErrBroken},
		{tree(2, 1, leaf(0), leaf(0)), api.ErrBroken},
		{tree(2, 0, leaf(0)), api.ErrBroken},
		{tree(2, 0, a, leaf(1)), api.ErrBroken},
		{tree(2, 0, leaf(1), a), api.ErrBroken},
		{tree(2, 0, a, leaf(1), a, leaf(1)), api.ErrBroken},
		{tree(2, 0, a, leaf(1), a, a), api.ErrBroken},
		{tree(2, 0, a, a, leaf(1)), api.ErrBroken},
		{tree(2, 0, leaf(1), leaf(1), a), api.ErrBroken},
		{tree(2, 0, a, leaf(0), a), api.ErrBroken},
		{tree(2, 0, a, leaf(1), leaf(0)), api.ErrBroken},
		// Kids that are no symbols are not the Body's, which is seen ahead of them.
		{tree(2, 1, leaf(3)), api.ErrBroken},
		{tree(2, 0, leaf(-1), leaf(1), a), api.ErrBroken},
		{tree(2, 0, a, leaf(1), leaf(99)), api.ErrBroken},
		// All of a node's Kids are held against the Body ahead of what the first one has.
		{tree(2, 0, tree(2, 9), leaf(1), leaf(1)), api.ErrBroken},
		{tree(2, 0, tree(2, 9), leaf(1)), api.ErrBroken},
		// The Kids' own faults.
		{tree(2, 1, tree(0, 0)), api.ErrBroken},
		{tree(2, 1, tree(0, -1, leaf(9))), api.ErrBroken},
		{tree(2, 0, tree(2, 9), leaf(1), tree(2, 1)), api.ErrArg},
		{tree(2, 0, tree(2, 1), leaf(1), tree(2, 9)), api.ErrBroken},
		{tree(2, 0, a, tree(1, 0), tree(2, 9)), api.ErrBroken},
		{tree(2, 0, a, leaf(1), tree(2, 9)), api.ErrArg},
		{tree(2, 0, a, leaf(1), tree(2, 1, tree(0, 4))), api.ErrBroken},
		{tree(2, 0, tree(2, 0, a, leaf(1), tree(2, 2)), leaf(1), tree(2, 1)), api.ErrArg},
		{tree(2, 0, tree(2, 0, a, leaf(1), tree(2, 1)), leaf(1), tree(2, 2)), api.ErrBroken},
	}
}

func TestTreesThatDoNotFit(t *testing.T) {
	g := sums()
	for _, c := range faulty() {
		fits(t, g, c.x, c.want)
		if e := fitsOf(g, c.x); e != c.want {
			t.Errorf("by the words %v: %v, not %v", c.x, e, c.want)
		}
		if c.x.Sym != 2 {
			continue
		}
		// In a first Kid, in a last one, in both, and far below.
		fits(t, g, sum(c.x, number()), c.want)
		fits(t, g, sum(number(), c.x), c.want)
		deep := sum(number(), sum(c.x, number()))
		for range 50 {
			deep = sum(sum(number(), deep), number())
		}
		fits(t, g, deep, c.want)
		for _, o := range faulty() {
			if o.x.Sym == 2 {
				fits(t, g, sum(c.x, o.x), c.want)
				fits(t, g, sum(sum(number(), c.x), sum(o.x, c.x)), c.want)
			}
		}
	}
}

func TestProductionsOfOtherHeads(t *testing.T) {
	// The same Body, of another Head; Kids that are a Body of this Head, by another production's number.
	g := of(2, 4, prod(2, 3, 1), prod(3, 0), prod(2, 0), prod(3, 3, 1), prod(2, 3, 1, 1))
	three := tree(3, 1, leaf(0))
	fits(t, g, three, api.OK)
	fits(t, g, tree(2, 2, leaf(0)), api.OK)
	fits(t, g, tree(2, 1, leaf(0)), api.ErrBroken)
	fits(t, g, tree(3, 2, leaf(0)), api.ErrBroken)
	fits(t, g, tree(2, 0, three, leaf(1)), api.OK)
	fits(t, g, tree(2, 3, three, leaf(1)), api.ErrBroken)
	fits(t, g, tree(3, 3, three, leaf(1)), api.OK)
	fits(t, g, tree(2, 4, three, leaf(1)), api.ErrBroken)
	fits(t, g, tree(2, 0, three, leaf(1), leaf(1)), api.ErrBroken)
	fits(t, g, tree(2, 4, three, leaf(1), leaf(1)), api.OK)
	fits(t, g, tree(2, 0, tree(3, 2, leaf(0)), leaf(1)), api.ErrBroken)
}

// spoiled is a tree with something other at a mixed node.
func (d *dice) spoiled(g api.Grammar, x api.Tree) api.Tree {
	x = copiedTree(x)
	at := &x
	for len(at.Kids) > 0 && d.roll(3) > 0 {
		at = &at.Kids[d.roll(len(at.Kids))]
	}
	switch d.roll(7) {
	case 0:
		at.Sym = d.roll(g.Symbols+4) - 2
	case 1:
		at.Prod = d.roll(len(g.Prods)+4) - 2
	case 2:
		at.Kids = append(at.Kids, leaf(d.roll(g.Terms)))
	case 3:
		at.Kids = at.Kids[:max(len(at.Kids)-1, 0)]
	case 4:
		mix(d, at.Kids)
	case 5:
		at.Prod = -1
	case 6:
		if n := len(at.Kids); n > 0 {
			at.Kids[d.roll(n)].Sym += d.roll(3) - 1
		}
	}
	return x
}

func TestMixedTrees(t *testing.T) {
	d := dice(2)
	had := map[api.Errno]int{}
	for range 400 {
		g := d.large(t, 8)
		high := heights(g)
		for range 10 {
			x := d.grown(g, high, d.roll(g.Symbols), d.roll(5))
			if e := fitsOf(g, x); e != api.OK {
				t.Fatalf("%v is one of %v by %v", x, g, e)
			}
			fits(t, g, x, api.OK)
			for range 4 {
				x = d.spoiled(g, x)
				want := fitsOf(g, x)
				had[want]++
				fits(t, g, x, want)
				yields(t, x, leavesOf(x)...)
			}
		}
	}
	for _, e := range []api.Errno{api.OK, api.ErrArg, api.ErrBroken} {
		if had[e] < 500 {
			t.Errorf("only %d of %v", had[e], e)
		}
	}
}

func TestYield(t *testing.T) {
	yields(t, api.Tree{}, 0)
	yields(t, leaf(5), 5)
	yields(t, api.Tree{Sym: 7, Prod: 3, Kids: []api.Tree{}}, 7)
	// Of no grammar's trees the leaves are told just so.
	yields(t, leaf(-8), -8)
	yields(t, leaf(math.MaxInt), math.MaxInt)
	yields(t, leaf(math.MinInt), math.MinInt)
	yields(t, tree(0, -1, leaf(3), leaf(4)), 3, 4)
	yields(t, tree(-1, 9, tree(-2, 9, leaf(-3)), tree(-4, 9), tree(-5, 9, leaf(6), tree(7, 0, leaf(8), leaf(9)))), -3, -4, 6, 8, 9)
	yields(t, tree(1, 1, tree(2, 2, tree(3, 3, tree(4, 4)))), 4)
	d := dice(3)
	var mixed func(depth int) api.Tree
	mixed = func(depth int) api.Tree {
		x := tree(d.roll(99)-20, d.roll(99)-20)
		for depth > 0 && d.roll(5) > 0 {
			x.Kids = append(x.Kids, mixed(depth-1))
		}
		return x
	}
	for range 500 {
		x := mixed(5)
		yields(t, x, leavesOf(x)...)
	}
}

func TestDeepTrees(t *testing.T) {
	const deep = 1 << 16
	g := of(2, 3, prod(2, 2, 1), prod(2, 1, 2), prod(2, 0))
	left, right, chain := tree(2, 2, leaf(0)), tree(2, 2, leaf(0)), leaf(77)
	for range deep {
		left, right, chain = tree(2, 0, left, leaf(1)), tree(2, 1, leaf(1), right), tree(5, 5, chain)
	}
	fits(t, g, left, api.OK)
	fits(t, g, right, api.OK)
	fits(t, g, chain, api.ErrArg)
	fits(t, g, tree(2, 0, left, tree(1, 0)), api.ErrBroken)
	yields(t, left, append([]int{0}, times(deep, 1)...)...)
	yields(t, right, append(times(deep, 1), 0)...)
	yields(t, chain, 77)
	// The only fault is the deepest node's.
	at := &left
	for len(at.Kids) > 0 {
		at = &at.Kids[0]
	}
	at.Prod = 0
	fits(t, g, left, api.ErrBroken)
}

func TestWideTrees(t *testing.T) {
	for n := 1; n <= api.MaxBody; n++ {
		g := of(1, 2, prod(1, times(n, 0)...))
		for k := range 12 {
			want := api.ErrBroken
			if k == n {
				want = api.OK
			}
			fits(t, g, tree(1, 0, times(k, leaf(0))...), want)
		}
		for at := range n {
			kids := times(n, leaf(0))
			kids[at] = tree(0, 0)
			fits(t, g, tree(1, 0, kids...), api.ErrBroken)
		}
	}
	// Far more Kids than any Body has; the leaves are told all the same.
	var kids []api.Tree
	var want []int
	for n := range 1 << 18 {
		kids, want = append(kids, leaf(n-7)), append(want, n-7)
	}
	fits(t, sums(), tree(2, 0, kids...), api.ErrBroken)
	fits(t, sums(), tree(0, -1, kids...), api.ErrBroken)
	fits(t, sums(), tree(9, -1, kids...), api.ErrArg)
	yields(t, tree(2, 0, kids...), want...)
	// A tree of E of as many leaves, half of them on each side.
	var all func(n int) api.Tree
	all = func(n int) api.Tree {
		if n == 1 {
			return number()
		}
		return sum(all(n/2), all(n-n/2))
	}
	x := all(1 << 15)
	fits(t, sums(), x, api.OK)
	if l := derive.Yield(x); len(l) != 1<<16-1 || slices.Index(l, 1) != 1 {
		t.Errorf("%d leaves", len(l))
	}
}
