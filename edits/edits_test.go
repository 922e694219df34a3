package edits_test

import (
	"math"
	"slices"
	"strings"
	"testing"

	"rootstock/api"
	"rootstock/edits"
)

func TestCheck(t *testing.T) {
	for _, x := range []struct {
		n    int
		e    api.Edit
		want api.Errno
	}{
		{0, edit(0, 0, ""), api.OK},
		{0, edit(0, 0, full), api.OK},
		{0, edit(0, 0, over), api.ErrLong},
		{6, edit(0, 0, "x"), api.OK},
		{6, edit(6, 6, "x"), api.OK},
		{6, edit(0, 6, ""), api.OK},
		{6, edit(2, 4, "xyz"), api.OK},
		{6, edit(2, 1, ""), api.ErrSpan},
		{6, edit(0, 7, ""), api.ErrSpan},
		{6, edit(7, 7, ""), api.ErrSpan},
		{6, edit(-1, 0, ""), api.ErrSpan},
		{6, edit(-2, -1, ""), api.ErrSpan},
		{api.MaxText, edit(0, 0, "a"), api.ErrLong},
		{api.MaxText, edit(0, 0, ""), api.OK},
		{api.MaxText, edit(0, 1, "a"), api.OK},
		{api.MaxText, edit(0, 1, "ab"), api.ErrLong},
		{api.MaxText, edit(api.MaxText, api.MaxText, ""), api.OK},
		{api.MaxText, edit(api.MaxText, api.MaxText, "a"), api.ErrLong},
		{api.MaxText, edit(0, api.MaxText, full), api.OK},
		{api.MaxText, edit(0, api.MaxText, over), api.ErrLong},
		{api.MaxText - 1, edit(5, 5, "a"), api.OK},
		{api.MaxText - 1, edit(5, 5, "ab"), api.ErrLong},
		{-1, edit(0, 0, ""), api.ErrArg},
		{api.MaxText + 1, edit(0, 0, ""), api.ErrArg},
		{api.MaxText + 1, edit(0, 1, ""), api.ErrArg},
		{math.MinInt, edit(0, 0, ""), api.ErrArg},
		{math.MaxInt, edit(0, 0, ""), api.ErrArg},
	} {
		if f := edits.Check(x.n, x.e); f != x.want {
			t.Errorf("%d, (%s): %v", x.n, show(x.e), f)
		}
	}
}

func TestCheckTellsTheFirstError(t *testing.T) {
	for _, x := range []struct {
		n    int
		e    api.Edit
		want api.Errno
	}{
		{-1, edit(2, 1, over), api.ErrArg},
		{api.MaxText + 1, edit(-1, 0, over), api.ErrArg},
		{-1, edit(0, 0, over), api.ErrArg},
		{6, edit(2, 1, over), api.ErrSpan},
		{6, edit(0, 7, over), api.ErrSpan},
		{api.MaxText, edit(-1, 0, "a"), api.ErrSpan},
	} {
		if f := edits.Check(x.n, x.e); f != x.want {
			t.Errorf("%d, (%s): %v", x.n, show(x.e), f)
		}
	}
	for _, e := range wild() {
		for _, n := range []int{0, 1, 6, api.MaxText} {
			if f := edits.Check(n, e); f != api.ErrSpan {
				t.Errorf("%d, (%s): %v", n, show(e), f)
			}
		}
		for _, n := range []int{-1, api.MaxText + 1} {
			if f := edits.Check(n, e); f != api.ErrArg {
				t.Errorf("%d, (%s): %v", n, show(e), f)
			}
		}
	}
}

func TestApply(t *testing.T) {
	for _, x := range []struct {
		text string
		e    api.Edit
		want string
		f    api.Errno
	}{
		{"abcdef", edit(1, 3, "XYZ"), "aXYZdef", api.OK},
		{"abcdef", edit(6, 6, "g"), "abcdefg", api.OK},
		{"abcdef", edit(0, 0, "g"), "gabcdef", api.OK},
		{"abcdef", edit(0, 6, ""), "", api.OK},
		{"abcdef", edit(0, 6, "xy"), "xy", api.OK},
		{"abcdef", edit(3, 3, ""), "abcdef", api.OK},
		{"abcdef", edit(5, 6, ""), "abcde", api.OK},
		{"", edit(0, 0, ""), "", api.OK},
		{"", edit(0, 0, "a\xffb"), "a\xffb", api.OK},
		{"a\u00e9b", edit(1, 2, ""), "a\xa9b", api.OK},
		{full, edit(7, 8, ""), full[1:], api.OK},
		{full[1:], edit(7, 7, "a"), full, api.OK},
		{"abcdef", edit(0, 6, full), full, api.OK},
		{"abcdef", edit(2, 1, ""), "", api.ErrSpan},
		{"abcdef", edit(0, 7, ""), "", api.ErrSpan},
		{"abcdef", edit(-1, 0, "x"), "", api.ErrSpan},
		{"abcdef", edit(0, 5, full), "", api.ErrLong},
		{full, edit(0, 0, "a"), "", api.ErrLong},
		{over, edit(0, 0, ""), "", api.ErrArg},
		{over, edit(0, api.MaxText+1, ""), "", api.ErrArg},
		{over, edit(2, 1, ""), "", api.ErrArg},
	} {
		s, f := edits.Apply(x.text, x.e)
		if s != x.want || f != x.f {
			t.Errorf("%.20q, (%s): %.20q, %v", x.text, show(x.e), s, f)
		}
	}
}

func TestApplyOfAllSmallEdits(t *testing.T) {
	for _, text := range small() {
		for _, e := range near(len(text)) {
			want, wantError := "", api.ErrSpan
			if fits(len(text), e) {
				want, wantError = spliced(text, e), api.OK
			}
			if s, f := edits.Apply(text, e); s != want || f != wantError {
				t.Errorf("%q (%s): %q, %v", text, show(e), s, f)
			}
		}
	}
}

func TestFold(t *testing.T) {
	for _, x := range []struct {
		text string
		l    []api.Edit
		want string
		told []api.Errno
	}{
		{"abcdef", []api.Edit{edit(0, 1, ""), edit(9, 9, ""), edit(0, 0, "zz")}, "zzbcdef", []api.Errno{api.OK, api.ErrSpan, api.OK}},
		{"abcdef", nil, "abcdef", nil},
		{"abcdef", []api.Edit{}, "abcdef", nil},
		{"", []api.Edit{edit(0, 0, "ab"), edit(2, 2, "c"), edit(0, 3, "")}, "", []api.Errno{api.OK, api.OK, api.OK}},
		{"ab", []api.Edit{edit(2, 2, "cd"), edit(3, 4, "X")}, "abcX", []api.Errno{api.OK, api.OK}},
		{"abcd", []api.Edit{edit(0, 3, ""), edit(3, 4, "X"), edit(1, 0, "")}, "d", []api.Errno{api.OK, api.ErrSpan, api.ErrSpan}},
		{"abcd", []api.Edit{edit(0, 0, "1"), edit(0, 0, "2"), edit(0, 0, "3")}, "321abcd", []api.Errno{api.OK, api.OK, api.OK}},
		{full, []api.Edit{edit(0, 0, "b"), edit(0, 2, "b"), edit(1, 1, "c")}, "bc" + full[2:], []api.Errno{api.ErrLong, api.OK, api.OK}},
		{over, []api.Edit{edit(0, 1, ""), edit(0, 0, ""), edit(2, 1, "")}, over, []api.Errno{api.ErrArg, api.ErrArg, api.ErrArg}},
		{over, nil, over, nil},
	} {
		s, told := edits.Fold(x.text, x.l)
		if s != x.want || !slices.Equal(told, x.told) {
			t.Errorf("%.20q, %d edits: %.20q, %v", x.text, len(x.l), s, told)
		}
	}
}

func TestFoldIsApplyOneBehindTheOther(t *testing.T) {
	l := append(near(3), wild()...)
	for step := 1; step < len(l); step += 3 {
		var some []api.Edit
		text := "abc"
		var want []api.Errno
		for i := 0; i < 40; i++ {
			e := l[i*step%len(l)]
			some = append(some, e)
			next, f := edits.Apply(text, e)
			if f == api.OK {
				text = next
			}
			want = append(want, f)
		}
		kept := slices.Clone(some)
		s, told := edits.Fold("abc", some)
		if s != text || !slices.Equal(told, want) {
			t.Errorf("step %d: %q, %v", step, s, told)
		}
		if !slices.Equal(some, kept) {
			t.Errorf("step %d: the list was changed", step)
		}
	}
}

func TestUndo(t *testing.T) {
	for _, x := range []struct {
		text string
		e    api.Edit
		want api.Edit
		f    api.Errno
	}{
		{"abcdef", edit(1, 3, "XYZ"), edit(1, 4, "bc"), api.OK},
		{"abcdef", edit(6, 6, "g"), edit(6, 7, ""), api.OK},
		{"abcdef", edit(0, 6, ""), edit(0, 0, "abcdef"), api.OK},
		{"abcdef", edit(2, 4, "cd"), edit(2, 4, "cd"), api.OK},
		{"abcdef", edit(3, 3, ""), edit(3, 3, ""), api.OK},
		{"", edit(0, 0, ""), edit(0, 0, ""), api.OK},
		{"", edit(0, 0, full), edit(0, api.MaxText, ""), api.OK},
		{full, edit(0, api.MaxText, ""), edit(0, 0, full), api.OK},
		{"abcdef", edit(2, 1, "x"), api.Edit{}, api.ErrSpan},
		{"abcdef", edit(0, 7, ""), api.Edit{}, api.ErrSpan},
		{"abcdef", edit(-1, 0, ""), api.Edit{}, api.ErrSpan},
		{full, edit(3, 4, "ab"), api.Edit{}, api.ErrLong},
		{over, edit(3, 4, ""), api.Edit{}, api.ErrArg},
		{over, edit(4, 3, ""), api.Edit{}, api.ErrArg},
	} {
		u, f := edits.Undo(x.text, x.e)
		if u != x.want || f != x.f {
			t.Errorf("%.20q, (%s): (%s), %v", x.text, show(x.e), show(u), f)
		}
	}
}

func TestNothingIsTakenFromWildEdits(t *testing.T) {
	for _, e := range wild() {
		for _, text := range []string{"", "a", "abcdef", full} {
			if s, f := edits.Apply(text, e); s != "" || f != api.ErrSpan {
				t.Errorf("apply %.20q (%s): %.20q, %v", text, show(e), s, f)
			}
			if u, f := edits.Undo(text, e); u != (api.Edit{}) || f != api.ErrSpan {
				t.Errorf("undo %.20q (%s): %.20q, %v", text, show(e), u.Text, f)
			}
			if s, told := edits.Fold(text, []api.Edit{e}); s != text || !slices.Equal(told, []api.Errno{api.ErrSpan}) {
				t.Errorf("fold %.20q (%s): %.20q, %v", text, show(e), s, told)
			}
		}
	}
	if strings.Count(full, "a") != api.MaxText {
		t.Error("a text was changed")
	}
}
