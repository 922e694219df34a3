package rope

import (
	"strings"

	"rootstock/api"
	"rootstock/lines"
)

// node is a tree of leaves: a leaf has a text and nothing below it, all others have two nodes below, of heights that differ by one at most. Two leaves that stand side by side have more bytes than fit in one, so that many small edits don't leave crumbs. A nil node has no leaf. No node changes once it is made.
type node struct {
	left, right *node
	text        string
	size        int
	height      int
	// end is the place behind the last byte.
	end api.Place
}

// leaf is a tree of one leaf.
func leaf(text string) *node {
	end, _ := lines.Of(text, len(text))
	// A copy, or the few bytes would keep the whole text from which they were cut.
	return &node{text: strings.Clone(text), size: len(text), end: end}
}

// fork is a tree of two whose heights differ by one at most.
func fork(left, right *node) *node {
	return &node{
		left:   left,
		right:  right,
		size:   left.size + right.size,
		height: max(left.height, right.height) + 1,
		end:    onward(left.end, right.end),
	}
}

// plant is a text as a tree whose leaves are full, but for the last one.
func plant(text string) *node {
	n := (len(text) + api.MaxChunk - 1) / api.MaxChunk
	switch n {
	case 0:
		return nil
	case 1:
		return leaf(text)
	}
	half := n / 2 * api.MaxChunk
	return fork(plant(text[:half]), plant(text[half:]))
}

// join is a tree of the leaves of two, one behind the other.
func join(a, b *node) *node {
	switch {
	case a == nil:
		return b
	case b == nil:
		return a
	case a.height > b.height+1:
		return level(a.left, join(a.right, b))
	case b.height > a.height+1:
		return level(join(a, b.left), b.right)
	}
	return fork(a, b)
}

// level is a tree of two whose heights differ by two at most.
func level(a, b *node) *node {
	switch {
	case a.height > b.height+1 && a.left.height >= a.right.height:
		return fork(a.left, fork(a.right, b))
	case a.height > b.height+1:
		return fork(fork(a.left, a.right.left), fork(a.right.right, b))
	case b.height > a.height+1 && b.right.height >= b.left.height:
		return fork(fork(a, b.left), b.right)
	case b.height > a.height+1:
		return fork(fork(a, b.left.left), fork(b.left.right, b.right))
	}
	return fork(a, b)
}

// link is a tree of the leaves of two, one behind the other, but that the two that meet are one, if they fit.
func link(a, b *node) *node {
	if a == nil || b == nil {
		return join(a, b)
	}
	x, y := a.last(), b.first()
	if x.size+y.size > api.MaxChunk {
		return join(a, b)
	}
	both := leaf(x.text + y.text)
	return join(join(a.head(a.size-x.size), both), b.tail(y.size))
}

// head is a tree of what stands ahead of an offset.
func (t *node) head(at int) *node {
	switch {
	case at <= 0:
		return nil
	case at >= t.size:
		return t
	case t.left == nil:
		return leaf(t.text[:at])
	case at <= t.left.size:
		return t.left.head(at)
	}
	return link(t.left, t.right.head(at-t.left.size))
}

// tail is a tree of what stands behind an offset.
func (t *node) tail(at int) *node {
	switch {
	case at <= 0:
		return t
	case at >= t.size:
		return nil
	case t.left == nil:
		return leaf(t.text[at:])
	case at >= t.left.size:
		return t.right.tail(at - t.left.size)
	}
	return link(t.left.tail(at), t.right)
}

// bytes tells how many bytes the tree's text has.
func (t *node) bytes() int {
	if t == nil {
		return 0
	}
	return t.size
}

// first is the first leaf.
func (t *node) first() *node {
	for t.left != nil {
		t = t.left
	}
	return t
}

// last is the last leaf.
func (t *node) last() *node {
	for t.right != nil {
		t = t.right
	}
	return t
}

// leaves are the leaves of l and, behind them, those of the tree.
func (t *node) leaves(l []*node) []*node {
	switch {
	case t == nil:
		return l
	case t.left == nil:
		return append(l, t)
	}
	return t.right.leaves(t.left.leaves(l))
}

// write tells what of the tree's text lies from an offset on, up to another one; both may lie beyond it.
func (t *node) write(b *strings.Builder, from, to int) {
	if t == nil || from >= t.size || to <= 0 {
		return
	}
	if t.left == nil {
		b.WriteString(t.text[max(from, 0):min(to, t.size)])
		return
	}
	t.left.write(b, from, to)
	t.right.write(b, from-t.left.size, to-t.left.size)
}

// down is the text of a leaf: at each node on the way to it beyond is asked of the left part whether the leaf is in the right one.
func (t *node) down(beyond func(left *node) bool) string {
	if t == nil {
		return ""
	}
	for t.left != nil {
		if beyond(t.left) {
			t = t.right
		} else {
			t = t.left
		}
	}
	return t.text
}
