package rope_test

import (
	"testing"

	"rootstock/api"
	"rootstock/rope"
)

// steady makes edits one behind the other, and holds each rope against its text, its height's bound, and what it has to share with the one ahead.
func steady(t *testing.T, s string, many int, next func(i, n int) api.Edit) {
	t.Helper()
	r := made(t, s)
	for i := range many {
		e := next(i, len(s))
		q := done(t, r, e)
		s = s[:e.Start] + e.Text + s[e.End:]
		if i%16 == 0 || i > many-16 {
			holds(t, q, s)
		}
		if n := len(q.Leaves()); q.Height() > highest(n) {
			t.Fatalf("edit %d: %d leaves, height %d", i, n, q.Height())
		}
		sharing(t, r, q, e)
		r = q
	}
}

// sharing holds Shared of a rope and of what an edit made of it against the bound, and against where the leaves lie in memory.
func sharing(t *testing.T, r, q *rope.Rope, e api.Edit) {
	t.Helper()
	n := rope.Shared(r, q)
	if n < least(q, e) || n > min(len(r.Leaves()), len(q.Leaves())) {
		t.Fatalf("%d to %d, %d bytes: %d shared, of %d and %d leaves", e.Start, e.End, len(e.Text), n, len(r.Leaves()), len(q.Leaves()))
	}
	if back, same := rope.Shared(q, r), alike(r, q); n != back || n != same {
		t.Fatalf("%d to %d, %d bytes: %d shared, the other way %d, in memory %d", e.Start, e.End, len(e.Text), n, back, same)
	}
}

func TestBalanceOfEditsAtOnePlace(t *testing.T) {
	for _, come := range []string{"a", text(64), text(65), text(200)} {
		steady(t, "", 320, func(i, n int) api.Edit { return edit(0, 0, come) })
		steady(t, "", 320, func(i, n int) api.Edit { return edit(n, n, come) })
		steady(t, "", 320, func(i, n int) api.Edit { return edit(n/2, n/2, come) })
		steady(t, text(5000), 250, func(i, n int) api.Edit { return edit(i, i, come) })
	}
}

func TestBalanceOfWhatGoes(t *testing.T) {
	steady(t, full, 500, func(i, n int) api.Edit { return edit(0, min(n, 130), "") })
	steady(t, full, 500, func(i, n int) api.Edit { return edit(n-min(n, 130), n, "") })
	steady(t, full, 500, func(i, n int) api.Edit { return edit(n/2, min(n, n/2+130), "") })
	// All but one byte of each leaf, one leaf behind the other.
	steady(t, full, 1000, func(i, n int) api.Edit { return edit(i, i+63, "") })
}

func TestBalanceOfMixedEdits(t *testing.T) {
	for seed := range 8 {
		d := dice(seed)
		steady(t, text(d.below(3000)), 600, func(i, n int) api.Edit { return d.edit(n) })
	}
}

func TestBalanceOfLargeCuts(t *testing.T) {
	d := dice(77)
	steady(t, full, 300, func(i, n int) api.Edit {
		start := d.below(n + 1)
		end := start + d.below(n-start+1)
		return edit(start, end, text(api.MaxText)[:d.below(api.MaxText-n+end-start+1)])
	})
}

func TestAllPlacesOfAnEditShare(t *testing.T) {
	for _, n := range []int{0, 1, 63, 64, 65, 128, 200} {
		r := made(t, text(n))
		for start := 0; start <= n; start++ {
			for _, end := range []int{start, min(n, start+1), min(n, start+64), n} {
				for _, come := range []string{"", "X", text(63), text(64), text(65), text(128), text(129)} {
					e := edit(start, end, come)
					sharing(t, r, done(t, r, e), e)
				}
			}
		}
	}
}

func TestSharedOfTheSame(t *testing.T) {
	for _, n := range []int{0, 1, 64, 65, 1000, api.MaxText} {
		r := made(t, text(n))
		if k := rope.Shared(r, r); k != len(r.Leaves()) {
			t.Errorf("%d bytes: %d shared of %d", n, k, len(r.Leaves()))
		}
	}
}

// The same bytes are no shared leaf: two ropes made apart have nothing in common.
func TestSharedOfTheSameBytes(t *testing.T) {
	a, b := made(t, text(1000)), made(t, text(1000))
	if n := rope.Shared(a, b); n != 0 {
		t.Errorf("made apart: %d shared", n)
	}
	c := done(t, a, edit(0, 1000, text(1000)))
	if n := rope.Shared(a, c); n != 0 {
		t.Errorf("put anew: %d shared", n)
	}
}

// Leaves that are shared, but behind one that is not, from both ends, are not counted.
func TestSharedUpToTheFirstThatIsNot(t *testing.T) {
	a := made(t, text(640))
	b := done(t, a, edit(100, 101, "X"))
	c := done(t, b, edit(500, 501, "Y"))
	if n := rope.Shared(a, c); n != 3 || n != alike(a, c) {
		t.Errorf("%d shared, leaves %d", n, len(c.Leaves()))
	}
	// Of both ends, where one rope is a part of the other: no leaf counts twice.
	d := done(t, a, edit(64, 576, ""))
	if n := rope.Shared(a, d); n != 2 || len(d.Leaves()) != 2 {
		t.Errorf("%d shared of %d", n, len(d.Leaves()))
	}
	e := done(t, a, edit(64, 640, ""))
	if n := rope.Shared(a, e); n != 1 || len(e.Leaves()) != 1 {
		t.Errorf("%d shared of %d", n, len(e.Leaves()))
	}
}
