package lines_test

import (
	"strings"
	"testing"

	"rootstock/api"
	"rootstock/lines"
)

func TestCount(t *testing.T) {
	for _, x := range []struct {
		text string
		want int
	}{
		{"", 1}, {"a", 1}, {"\n", 2}, {"ab\nc", 2}, {"ab\n", 2}, {"\n\n", 3}, {"\nab", 2}, {"a\n\nb\n", 4},
		{"\r", 1}, {"\r\n", 2}, {"\n\r", 2}, {"\v\f\x00", 1}, {"\u2028\u2029\u0085", 1}, {"\xff\n\xfe", 2}, {"\u010a\u0a0a", 1},
		{strings.Repeat("\n", api.MaxText), api.MaxText + 1},
		{strings.Repeat("a", api.MaxText), 1},
		{strings.Repeat("\n", api.MaxText+1), api.MaxText + 2},
	} {
		if n := lines.Count(x.text); n != x.want {
			t.Errorf("%.20q: %d", x.text, n)
		}
	}
}

func TestOf(t *testing.T) {
	for _, x := range []struct {
		text string
		at   int
		want api.Place
		f    api.Errno
	}{
		{"", 0, place(0, 0), api.OK},
		{"", 1, api.Place{}, api.ErrNone},
		{"", -1, api.Place{}, api.ErrNone},
		{"ab\nc", 0, place(0, 0), api.OK},
		{"ab\nc", 2, place(0, 2), api.OK},
		{"ab\nc", 3, place(1, 0), api.OK},
		{"ab\nc", 4, place(1, 1), api.OK},
		{"ab\nc", 5, api.Place{}, api.ErrNone},
		{"ab\nc", -1, api.Place{}, api.ErrNone},
		{"ab\n", 3, place(1, 0), api.OK},
		{"ab\n", 4, api.Place{}, api.ErrNone},
		{"\n\n", 0, place(0, 0), api.OK},
		{"\n\n", 1, place(1, 0), api.OK},
		{"\n\n", 2, place(2, 0), api.OK},
		{"a\r\nb", 2, place(0, 2), api.OK},
		{"a\r\nb", 3, place(1, 0), api.OK},
		{"\u00e9\n\u65e5x", 2, place(0, 2), api.OK},
		{"\u00e9\n\u65e5x", 4, place(1, 1), api.OK},
		{"\u00e9\n\u65e5x", 6, place(1, 3), api.OK},
	} {
		if p, f := lines.Of(x.text, x.at); p != x.want || f != x.f {
			t.Errorf("%q %d: %v, %v", x.text, x.at, p, f)
		}
	}
}

func TestAt(t *testing.T) {
	for _, x := range []struct {
		text string
		p    api.Place
		want int
		f    api.Errno
	}{
		{"", place(0, 0), 0, api.OK},
		{"", place(0, 1), 0, api.ErrNone},
		{"", place(1, 0), 0, api.ErrNone},
		{"ab\nc", place(0, 0), 0, api.OK},
		{"ab\nc", place(0, 2), 2, api.OK},
		{"ab\nc", place(0, 3), 0, api.ErrNone},
		{"ab\nc", place(1, 0), 3, api.OK},
		{"ab\nc", place(1, 1), 4, api.OK},
		{"ab\nc", place(1, 2), 0, api.ErrNone},
		{"ab\nc", place(2, 0), 0, api.ErrNone},
		{"ab\n", place(1, 0), 3, api.OK},
		{"ab\n", place(1, 1), 0, api.ErrNone},
		{"ab\n", place(2, 0), 0, api.ErrNone},
		{"ab\n", place(-1, 0), 0, api.ErrNone},
		{"ab\n", place(0, -1), 0, api.ErrNone},
		{"ab\n", place(1, -1), 0, api.ErrNone},
		{"ab\n", place(-1, 3), 0, api.ErrNone},
		{"\n\n", place(0, 1), 0, api.ErrNone},
		{"\n\n", place(1, 0), 1, api.OK},
		{"\n\n", place(2, 0), 2, api.OK},
		{"\n\n", place(3, 0), 0, api.ErrNone},
		{"a\r\nb", place(0, 2), 2, api.OK},
		{"a\r\nb", place(0, 3), 0, api.ErrNone},
	} {
		if n, f := lines.At(x.text, x.p); n != x.want || f != x.f {
			t.Errorf("%q %v: %d, %v", x.text, x.p, n, f)
		}
	}
}

func TestAllOffsets(t *testing.T) {
	for _, text := range append(small(), odd()...) {
		l := walked(text)
		if n := lines.Count(text); n != l[len(text)].Line+1 {
			t.Errorf("%q: %d lines", text, n)
		}
		for at := -2; at <= len(text)+2; at++ {
			want, wantError := api.Place{}, api.ErrNone
			if 0 <= at && at <= len(text) {
				want, wantError = l[at], api.OK
			}
			if p, f := lines.Of(text, at); p != want || f != wantError {
				t.Errorf("%q %d: %v, %v", text, at, p, f)
			}
		}
	}
}

func TestAllPlaces(t *testing.T) {
	for _, text := range append(small(), odd()...) {
		offsets := map[api.Place]int{}
		for at, p := range walked(text) {
			offsets[p] = at
		}
		for line := -2; line <= len(text)+2; line++ {
			for col := -2; col <= len(text)+2; col++ {
				want, known := offsets[place(line, col)]
				wantError := api.OK
				if !known {
					wantError = api.ErrNone
				}
				if n, f := lines.At(text, place(line, col)); n != want || f != wantError {
					t.Errorf("%q %d %d: %d, %v", text, line, col, n, f)
				}
			}
		}
	}
}

func TestWhatIsFar(t *testing.T) {
	for _, text := range []string{"", "\n", "ab\nc", "ab\n", strings.Repeat("\n", 200), strings.Repeat("a", 200)} {
		for _, n := range far() {
			if p, f := lines.Of(text, n); p != (api.Place{}) || f != api.ErrNone {
				t.Errorf("%.20q %d: %v, %v", text, n, p, f)
			}
			for _, p := range []api.Place{place(n, 0), place(0, n), place(n, n), place(1, n), place(n, 1), place(n, -n)} {
				if at, f := lines.At(text, p); at != 0 || f != api.ErrNone {
					t.Errorf("%.20q %v: %d, %v", text, p, at, f)
				}
			}
		}
	}
}

// A layer of lines has no limit of its own: places are exact beyond what a float of 32 bits can tell.
func TestLongTexts(t *testing.T) {
	const n = 1<<24 + 1
	for _, x := range []struct {
		text string
		end  api.Place
	}{
		{strings.Repeat("a", n), place(0, n)},
		{strings.Repeat("\n", n), place(n, 0)},
		{"\n" + strings.Repeat("a", n), place(1, n)},
	} {
		if c := lines.Count(x.text); c != x.end.Line+1 {
			t.Errorf("%.5q: %d lines", x.text, c)
		}
		if p, f := lines.Of(x.text, len(x.text)); p != x.end || f != api.OK {
			t.Errorf("%.5q: %v, %v", x.text, p, f)
		}
		if at, f := lines.At(x.text, x.end); at != len(x.text) || f != api.OK {
			t.Errorf("%.5q: %d, %v", x.text, at, f)
		}
		if at, f := lines.At(x.text, place(x.end.Line, x.end.Col+1)); at != 0 || f != api.ErrNone {
			t.Errorf("%.5q, a column more: %d, %v", x.text, at, f)
		}
		if at, f := lines.At(x.text, place(x.end.Line+1, 0)); at != 0 || f != api.ErrNone {
			t.Errorf("%.5q, a line more: %d, %v", x.text, at, f)
		}
	}
}
