package edits_test

import (
	"math"
	"testing"

	"rootstock/api"
	"rootstock/edits"
)

func TestAt(t *testing.T) {
	for _, x := range []struct {
		e    api.Edit
		want []int
	}{
		{edit(1, 3, "XYZ"), []int{0, 1, 2, 4, 5, 6, 7}},
		{edit(1, 5, "X"), []int{0, 1, 2, 2, 2, 2, 3, 4}},
		{edit(2, 2, "XY"), []int{0, 1, 2, 5, 6}},
		{edit(0, 0, "X"), []int{0, 2, 3}},
		{edit(0, 4, ""), []int{0, 0, 0, 0, 0, 1, 2}},
		{edit(1, 4, ""), []int{0, 1, 1, 1, 1, 2}},
		{edit(2, 5, "XYZ"), []int{0, 1, 2, 3, 4, 5, 6}},
		{edit(2, 3, "WXYZ"), []int{0, 1, 2, 6, 7}},
		{edit(1, 4, "UVWXYZ"), []int{0, 1, 2, 3, 7, 8}},
		{edit(0, 5, "XY"), []int{0, 1, 2, 2, 2, 2, 3}},
		{edit(0, 0, ""), []int{0, 1, 2, 3}},
		{edit(3, 3, ""), []int{0, 1, 2, 3, 4}},
	} {
		for at, want := range x.want {
			if n := edits.At(x.e, at); n != want {
				t.Errorf("(%s) %d: %d", show(x.e), at, n)
			}
		}
	}
}

func TestAtOfTheLimits(t *testing.T) {
	for _, x := range []struct {
		e        api.Edit
		at, want int
	}{
		{edit(0, 0, ""), api.MaxText, api.MaxText},
		{edit(0, 0, "x"), api.MaxText, api.MaxText + 1},
		{edit(0, 0, full), api.MaxText, 2 * api.MaxText},
		{edit(0, api.MaxText, ""), api.MaxText, 0},
		{edit(0, api.MaxText, full), api.MaxText - 1, api.MaxText - 1},
		{edit(api.MaxText, api.MaxText, "x"), api.MaxText, api.MaxText},
		{edit(api.MaxText-1, api.MaxText, ""), api.MaxText, api.MaxText - 1},
	} {
		if n := edits.At(x.e, x.at); n != x.want {
			t.Errorf("(%s), %d: %d", show(x.e), x.at, n)
		}
	}
}

func TestAtOfWhatIsNone(t *testing.T) {
	for _, e := range append(wild(), edit(0, 0, over), edit(3, 4, over), edit(3, 1, "")) {
		for _, at := range []int{0, 1, 2, 6, api.MaxText} {
			if n := edits.At(e, at); n != 0 {
				t.Errorf("(%s), %d: %d", show(e), at, n)
			}
			if s := edits.Image(e, api.Span{From: at, To: api.MaxText}); s != (api.Span{}) {
				t.Errorf("(%s), %d: %v", show(e), at, s)
			}
		}
	}
	for _, e := range []api.Edit{edit(0, 0, ""), edit(1, 3, "XYZ"), edit(0, 0, full), edit(0, api.MaxText, "")} {
		for _, at := range []int{-1, -2, math.MinInt, api.MaxText + 1, api.MaxText + 2, math.MaxInt} {
			if n := edits.At(e, at); n != 0 {
				t.Errorf("(%s), %d: %d", show(e), at, n)
			}
		}
	}
}

func TestImage(t *testing.T) {
	e := edit(1, 3, "XYZ")
	for _, x := range []struct {
		e       api.Edit
		s, want api.Span
	}{
		{e, api.Span{From: 2, To: 6}, api.Span{From: 2, To: 7}},
		{e, api.Span{From: 0, To: 1}, api.Span{From: 0, To: 1}},
		{e, api.Span{From: 1, To: 3}, api.Span{From: 1, To: 4}},
		{e, api.Span{From: 3, To: 3}, api.Span{From: 4, To: 4}},
		{e, api.Span{From: 3, To: api.MaxText}, api.Span{From: 4, To: api.MaxText + 1}},
		{edit(1, 5, ""), api.Span{From: 2, To: 4}, api.Span{From: 1, To: 1}},
		{edit(2, 2, "XY"), api.Span{From: 2, To: 2}, api.Span{From: 2, To: 2}},
		{edit(2, 2, "XY"), api.Span{From: 2, To: 3}, api.Span{From: 2, To: 5}},
		{edit(2, 2, "XY"), api.Span{From: 1, To: 2}, api.Span{From: 1, To: 2}},
		{edit(0, 0, ""), api.Span{From: 0, To: api.MaxText}, api.Span{From: 0, To: api.MaxText}},
		{e, api.Span{From: 3, To: 2}, api.Span{}},
		{e, api.Span{From: 6, To: 5}, api.Span{}},
		{e, api.Span{From: -1, To: 6}, api.Span{}},
		{e, api.Span{From: -2, To: -1}, api.Span{}},
		{e, api.Span{From: 4, To: api.MaxText + 1}, api.Span{}},
		{e, api.Span{From: api.MaxText + 1, To: api.MaxText + 1}, api.Span{}},
		{e, api.Span{From: math.MinInt, To: math.MaxInt}, api.Span{}},
		{e, api.Span{From: 4, To: math.MaxInt}, api.Span{}},
		{e, api.Span{From: 5, To: math.MinInt}, api.Span{}},
	} {
		if s := edits.Image(x.e, x.s); s != x.want {
			t.Errorf("(%s) %v: %v", show(x.e), x.s, s)
		}
	}
}

func TestAtGoesByTheOrder(t *testing.T) {
	for _, e := range near(5) {
		for at := 1; at <= 8; at++ {
			if a, b := edits.At(e, at-1), edits.At(e, at); a > b {
				t.Errorf("(%s): %d of %d, %d of %d", show(e), a, at-1, b, at)
			}
		}
	}
}
