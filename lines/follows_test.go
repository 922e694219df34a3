package lines_test

import (
	"strings"
	"testing"

	"rootstock/api"
	"rootstock/lines"
)

func TestThereAndBack(t *testing.T) {
	for _, text := range append(small(), odd()...) {
		for at := 0; at <= len(text); at++ {
			p, f := lines.Of(text, at)
			if f != api.OK {
				t.Errorf("%q %d: %v", text, at, f)
			}
			if n, f := lines.At(text, p); n != at || f != api.OK {
				t.Errorf("%q %d: %v, %d, %v", text, at, p, n, f)
			}
		}
		told := 0
		for line := 0; line < lines.Count(text); line++ {
			for col := 0; col <= len(text); col++ {
				at, f := lines.At(text, place(line, col))
				if f != api.OK {
					continue
				}
				told++
				if p, f := lines.Of(text, at); p != place(line, col) || f != api.OK {
					t.Errorf("%q %d %d: %d, %v, %v", text, line, col, at, p, f)
				}
			}
		}
		if told != len(text)+1 {
			t.Errorf("%q: %d places", text, told)
		}
	}
}

func later(a, b api.Place) bool {
	return a.Line > b.Line || a.Line == b.Line && a.Col > b.Col
}

func TestPlacesGoByTheOrder(t *testing.T) {
	for _, text := range append(small(), odd()...) {
		for at := 1; at <= len(text); at++ {
			a, _ := lines.Of(text, at-1)
			b, _ := lines.Of(text, at)
			if !later(b, a) {
				t.Errorf("%q: %v of %d, %v of %d", text, a, at-1, b, at)
			}
		}
	}
}

// joined is where a place of the second of two texts is, if the first one stands ahead of it.
func joined(first string, p api.Place) api.Place {
	if p.Line == 0 {
		p.Col += len(first) - (strings.LastIndex(first, "\n") + 1)
	}
	p.Line += lines.Count(first) - 1
	return p
}

func TestTwoTexts(t *testing.T) {
	l := append(small()[:121], odd()...)
	for _, a := range l {
		for _, b := range l {
			if n := lines.Count(a + b); n != lines.Count(a)+lines.Count(b)-1 {
				t.Errorf("%q %q: %d lines", a, b, n)
			}
			for at := 0; at <= len(b); at++ {
				p, _ := lines.Of(b, at)
				want := joined(a, p)
				if q, f := lines.Of(a+b, len(a)+at); q != want || f != api.OK {
					t.Errorf("%q %q %d: %v, %v", a, b, at, q, f)
				}
				if n, f := lines.At(a+b, want); n != len(a)+at || f != api.OK {
					t.Errorf("%q %q %v: %d, %v", a, b, want, n, f)
				}
			}
		}
	}
}
