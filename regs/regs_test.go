package regs_test

import (
	"testing"

	"rootstock/api"
	"rootstock/regs"
)

// shared is a pattern of few lists in memory, and of very many patterns, as lists are parts of several.
func shared(n int) api.Reg {
	r := of("a")
	for range n {
		r = cat(r, r)
	}
	return r
}

// looped is a pattern that has itself in it.
func looped(kind int) api.Reg {
	r := put(kind, of("a"), of("b"))
	r.Parts[1] = r
	return r
}

func TestSize(t *testing.T) {
	for i, x := range []struct {
		r    api.Reg
		want int
	}{
		{none, 1}, {empty, 1}, {of(""), 1}, {of("abc"), 1}, {star(of("a")), 2}, {cat(of("a"), of("b"), of("c")), 4}, {alt(cat(of("a"), of("b")), empty), 5},
		{cat(cat(cat(of("a"))), plus(of("b"))), 6}, {down(15, api.RegMaybe, none), 16}, {down(99, api.RegMaybe, none), 100},
		{cat(times(510, of("a"))...), 511}, {cat(times(511, of("a"))...), 512}, {cat(times(512, of("a"))...), 513}, {cat(times(513, of("a"))...), 513}, {cat(times(100000, of("a"))...), 513},
		{alt(cat(times(255, empty)...), cat(times(254, empty)...)), 512}, {alt(cat(times(255, empty)...), cat(times(255, empty)...)), 513}, {alt(cat(times(255, empty)...), cat(times(256, empty)...)), 513},
		{down(511, api.RegStar, none), 512}, {down(512, api.RegStar, none), 513}, {down(513, api.RegStar, none), 513}, {down(60000, api.RegStar, none), 513},
		{star(cat(times(510, of("a"))...)), 512}, {star(cat(times(511, of("a"))...)), 513}, {cat(append(times(510, of("a")), star(none))...), 513},
		{shared(7), 255}, {shared(8), 511}, {shared(9), 513}, {shared(1000), 513}, {looped(api.RegCat), 513}, {looped(api.RegStar), 513},
		// What may not be has a size, too.
		{put(api.RegCat), 1}, {put(-1, of("a"), put(99, none)), 4}, {put(api.RegSet, of("a")), 2}, {put(api.RegStar, of("a"), of("b")), 3},
	} {
		if n := regs.Size(x.r); n != x.want {
			t.Errorf("%d: %d, not %d", i, n, x.want)
		}
	}
}

func TestCheck(t *testing.T) {
	for i, r := range []api.Reg{
		none, empty, of(""), of("a"), dot, whole, {}, {Kind: api.RegEmpty, Parts: []api.Reg{}}, {Kind: api.RegSet, Parts: []api.Reg{}},
		star(of("a")), plus(none), maybe(empty), cat(of("a")), alt(of("a")), cat(none, empty, of("")), alt(star(plus(maybe(of("a")))), cat(alt(empty), none)),
		cat(times(511, of("a"))...), alt(times(511, none)...), star(cat(times(510, of("a"))...)), down(15, api.RegStar, of("a")), down(15, api.RegCat, none), down(15, api.RegAlt, empty), shared(8),
		down(14, api.RegMaybe, cat(times(497, of("a"))...)),
	} {
		if e := regs.Check(r); e != api.OK {
			t.Errorf("%d: %v", i, e)
		}
	}
}

// wrong are patterns that may not be, by themselves.
func wrong() []api.Reg {
	a := of("a")
	l := []api.Reg{
		put(api.RegNone, a), put(api.RegNone, a, a), put(api.RegEmpty, a), put(api.RegEmpty, empty), put(api.RegSet, a), put(api.RegSet, a, a), {Kind: api.RegSet, Set: a.Set, Parts: []api.Reg{a}},
		put(api.RegCat), put(api.RegAlt), {Kind: api.RegCat, Parts: []api.Reg{}}, {Kind: api.RegAlt, Parts: []api.Reg{}},
		put(api.RegStar), put(api.RegPlus), put(api.RegMaybe), put(api.RegStar, a, a), put(api.RegPlus, a, a), put(api.RegMaybe, a, a), put(api.RegStar, a, a, a), put(api.RegPlus, empty, empty, empty), put(api.RegMaybe, none, none, none),
	}
	for _, kind := range []int{-1, 8, 9, 64, 256, -8, 1 << 40, -1 << 63, 1<<63 - 1} {
		l = append(l, put(kind), put(kind, a), put(kind, a, a), api.Reg{Kind: kind, Set: a.Set})
	}
	for _, s := range []api.Set{a.Set, whole.Set, dot.Set, {1}, {0, 1}, {0, 0, 1 << 63}, {0, 0, 0, 1}, {0, 0, 0, 1 << 63}} {
		l = append(l, api.Reg{Kind: api.RegNone, Set: s}, api.Reg{Kind: api.RegEmpty, Set: s})
		for kind := api.RegCat; kind <= api.RegMaybe; kind++ {
			l = append(l, api.Reg{Kind: kind, Set: s, Parts: []api.Reg{a}})
		}
	}
	return l
}

// refused holds what all three calls that check a pattern tell of it.
func refused(t *testing.T, what any, r api.Reg, want api.Errno) {
	t.Helper()
	if e := regs.Check(r); e != want {
		t.Errorf("%v: Check %v, not %v", what, e, want)
	}
	if s, e := regs.Print(r); s != "" || e != want {
		t.Errorf("%v: Print %q, %v, not %v", what, s, e, want)
	}
	for _, text := range []string{"", "a", string(make([]byte, api.MaxText+1))} {
		if is, e := regs.Matches(r, text); is || e != want {
			t.Errorf("%v: Matches %v, %v, not %v", what, is, e, want)
		}
	}
}

func TestWhatMayNotBe(t *testing.T) {
	a := of("a")
	for i, w := range wrong() {
		for j, r := range []api.Reg{w, star(w), plus(w), maybe(w), cat(w), alt(w), cat(a, w), cat(w, a), alt(a, w), alt(w, a), cat(a, alt(a, star(w), a), a), down(13, api.RegStar, w)} {
			refused(t, [2]int{i, j}, r, api.ErrArg)
		}
	}
}

func TestTooManyAndTooDeep(t *testing.T) {
	a := of("a")
	for i, r := range []api.Reg{
		cat(times(512, a)...), alt(times(512, empty)...), star(cat(times(511, none)...)), shared(9), shared(1000), looped(api.RegCat), looped(api.RegAlt),
		// Too many comes ahead of too deep, and of what may not be.
		down(512, api.RegStar, a), down(60000, api.RegStar, a), down(20, api.RegStar, cat(times(500, a)...)), looped(api.RegStar), looped(99), put(api.RegStar, times(512, a)...), put(-1, times(512, a)...), cat(times(512, put(api.RegCat))...),
		{Kind: api.RegCat, Set: a.Set, Parts: times(512, a)},
	} {
		refused(t, i, r, api.ErrLong)
	}
	for i, r := range []api.Reg{
		down(16, api.RegStar, a), down(16, api.RegCat, a), down(16, api.RegAlt, empty), down(17, api.RegPlus, none), down(100, api.RegMaybe, a), down(511, api.RegStar, a), cat(a, a, down(15, api.RegStar, a)), cat(down(15, api.RegStar, a), a), alt(a, down(15, api.RegCat, a), a),
		down(15, api.RegStar, cat(times(496, a)...)),
		// Too deep comes ahead of what may not be.
		down(16, api.RegStar, put(api.RegCat)), down(16, 99, a), put(api.RegStar, a, down(15, api.RegStar, a)), cat(put(-1), down(15, api.RegStar, a)), {Kind: api.RegStar, Set: a.Set, Parts: []api.Reg{down(15, api.RegStar, a)}},
	} {
		refused(t, i, r, api.ErrDeep)
	}
}

func TestPatternsStayWhatTheyWere(t *testing.T) {
	d := dice(5)
	l := append(small(), wrong()...)
	for range 200 {
		l = append(l, d.pattern(6))
	}
	for _, r := range l {
		was := copied(r)
		regs.Size(r)
		regs.Check(r)
		regs.Print(r)
		regs.Matches(r, "abc")
		if !same(r, was) {
			t.Errorf("%v became %v", was, r)
		}
	}
}
