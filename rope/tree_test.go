package rope

import (
	"testing"

	"rootstock/api"
	"rootstock/lines"
)

// sound tells what a node says of itself that is not so, all below it told.
func sound(t *testing.T, n *node) {
	t.Helper()
	if n.left == nil {
		if n.right != nil || n.height != 0 || n.size != len(n.text) || n.size < 1 || n.size > api.MaxChunk {
			t.Fatalf("leaf %q: size %d, height %d", n.text, n.size, n.height)
		}
		return
	}
	sound(t, n.left)
	sound(t, n.right)
	if d := n.left.height - n.right.height; d < -1 || d > 1 || n.height != max(n.left.height, n.right.height)+1 {
		t.Fatalf("height %d over %d and %d", n.height, n.left.height, n.right.height)
	}
	if n.text != "" || n.size != n.left.size+n.right.size {
		t.Fatalf("size %d over %d and %d", n.size, n.left.size, n.right.size)
	}
	text := n.span(0, n.size)
	if end, _ := lines.Of(text, len(text)); end != n.end {
		t.Fatalf("%q: end %v", text, n.end)
	}
}

// whole tells what is not as a tree's remark says.
func whole(t *testing.T, r *Rope) {
	t.Helper()
	if r.tree == nil {
		return
	}
	sound(t, r.tree)
	l := r.tree.leaves(nil)
	for i := 1; i < len(l); i++ {
		if l[i-1].size+l[i].size <= api.MaxChunk {
			t.Fatalf("leaves %d and %d of %d fit in one", i-1, i, len(l))
		}
	}
}

func TestTrees(t *testing.T) {
	text := ""
	for i := range 700 {
		text += string(rune('a' + i%26))
		if i%17 == 3 {
			text += "\n"
		}
	}
	r, _ := New(text)
	whole(t, r)
	for i := range 4000 {
		n := r.Len()
		start := i * 7919 % (n + 1)
		end := min(n, start+i*31%90)
		come := text[:i*57%97]
		if n > 6000 {
			end = min(n, start+5000)
		}
		s, f := r.Splice(api.Edit{Start: start, End: end, Text: come})
		if f != api.OK {
			t.Fatal(f)
		}
		whole(t, s)
		r = s
	}
}

// Trees of all heights stand side by side: what is joined is level.
func TestJoin(t *testing.T) {
	text := ""
	for len(text) < 40*api.MaxChunk {
		text += "0123456789abcde\n"
	}
	for a := range 40 {
		for b := range 40 {
			tree := join(plant(text[:a*api.MaxChunk]), plant(text[:b*api.MaxChunk]))
			if tree.bytes() != (a+b)*api.MaxChunk {
				t.Fatalf("%d and %d leaves: %d bytes", a, b, tree.bytes())
			}
			if tree != nil {
				sound(t, tree)
			}
		}
	}
}
