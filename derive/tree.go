package derive

import (
	"slices"

	"rootstock/api"
	"rootstock/grams"
)

// Fits tells whether a tree is one of the grammar's.
func Fits(g api.Grammar, t api.Tree) api.Errno {
	if e := grams.Check(g); e != api.OK {
		return e
	}
	var look func(t api.Tree) api.Errno
	look = func(t api.Tree) api.Errno {
		if e := fault(g, t); e != api.OK {
			return e
		}
		for _, k := range t.Kids {
			if e := look(k); e != api.OK {
				return e
			}
		}
		return api.OK
	}
	return look(t)
}

// fault is what a node has that no tree of the grammar has, itself and its Kids' symbols looked at.
func fault(g api.Grammar, t api.Tree) api.Errno {
	switch {
	case t.Sym < 0 || t.Sym >= g.Symbols:
		return api.ErrArg
	case t.Sym < g.Terms:
		if t.Prod != -1 || len(t.Kids) > 0 {
			return api.ErrBroken
		}
	case t.Prod < 0 || t.Prod >= len(g.Prods):
		return api.ErrArg
	case !isOf(g.Prods[t.Prod], t):
		return api.ErrBroken
	}
	return api.OK
}

// isOf tells whether a node is as a production says.
func isOf(p api.Prod, t api.Tree) bool {
	return p.Head == t.Sym && slices.EqualFunc(t.Kids, p.Body, func(k api.Tree, sym int) bool { return k.Sym == sym })
}

// Yield is a tree's leaves.
func Yield(t api.Tree) []int {
	var l []int
	var add func(t api.Tree)
	add = func(t api.Tree) {
		if len(t.Kids) == 0 {
			l = append(l, t.Sym)
		}
		for _, k := range t.Kids {
			add(k)
		}
	}
	add(t)
	return l
}
