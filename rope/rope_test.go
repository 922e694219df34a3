package rope_test

import (
	"slices"
	"strings"
	"testing"
	"unsafe"

	"rootstock/api"
	"rootstock/edits"
	"rootstock/lines"
	"rootstock/rope"
)

func TestNew(t *testing.T) {
	for _, s := range append(samples(), text(1000), full, full[1:]) {
		holds(t, made(t, s), s)
	}
	for _, s := range []string{over, over + over} {
		if r, f := rope.New(s); r != nil || f != api.ErrLong {
			t.Errorf("%d bytes: %v, %v", len(s), r, f)
		}
	}
}

func TestTheEmptyText(t *testing.T) {
	for _, r := range []*rope.Rope{made(t, ""), done(t, made(t, "ab"), edit(0, 2, "")), done(t, made(t, full), edit(0, api.MaxText, ""))} {
		holds(t, r, "")
		if r.Height() != 0 || len(r.Leaves()) != 0 || r.Lines() != 1 {
			t.Errorf("height %d, %d leaves, %d lines", r.Height(), len(r.Leaves()), r.Lines())
		}
		if s, f := r.Slice(span(0, 0)); s != "" || f != api.OK {
			t.Errorf("Slice: %q, %v", s, f)
		}
		if b, f := r.Byte(0); b != 0 || f != api.ErrNone {
			t.Errorf("Byte: %d, %v", b, f)
		}
		if p, f := r.Of(0); p != place(0, 0) || f != api.OK {
			t.Errorf("Of: %v, %v", p, f)
		}
		if n, f := r.At(place(0, 0)); n != 0 || f != api.OK {
			t.Errorf("At: %d, %v", n, f)
		}
		holds(t, done(t, r, edit(0, 0, full)), full)
	}
}

func TestHeight(t *testing.T) {
	for _, x := range []struct{ n, height int }{{0, 0}, {1, 0}, {64, 0}, {65, 1}, {128, 1}, {129, 2}} {
		if h := made(t, text(x.n)).Height(); h != x.height {
			t.Errorf("%d bytes: %d", x.n, h)
		}
	}
}

// Nothing that is handed in is kept: its memory may come to have other bytes.
func TestArgumentsAreNotKept(t *testing.T) {
	old, come := text(300), text(200)
	b, c := []byte(old), []byte(come)
	r := made(t, unsafe.String(&b[0], len(b)))
	s := done(t, r, edit(70, 90, unsafe.String(&c[0], len(c))))
	clear(b)
	clear(c)
	holds(t, r, old)
	holds(t, s, old[:70]+come+old[90:])
}

func TestListsAreTheirOwn(t *testing.T) {
	r := made(t, text(300))
	l := r.Leaves()
	clear(l)
	_ = append(l[:1], "x")
	holds(t, r, text(300))
}

func TestByte(t *testing.T) {
	for _, s := range append(samples(), full) {
		r := made(t, s)
		for at := range len(s) {
			if b, f := r.Byte(at); b != s[at] || f != api.OK {
				t.Fatalf("%.40q %d: %d, %v", s, at, b, f)
			}
		}
		for _, at := range append(far(), len(s), len(s)+1) {
			if b, f := r.Byte(at); b != 0 || f != api.ErrNone {
				t.Errorf("%.40q %d: %d, %v", s, at, b, f)
			}
		}
	}
}

func TestSlice(t *testing.T) {
	for _, s := range samples() {
		r := made(t, s)
		for from := -1; from <= len(s)+1; from++ {
			for to := -1; to <= len(s)+1; to++ {
				want, wantError := "", api.ErrNone
				if 0 <= from && from <= to && to <= len(s) {
					want, wantError = s[from:to], api.OK
				}
				if got, f := r.Slice(span(from, to)); got != want || f != wantError {
					t.Fatalf("%q %d to %d: %q, %v", s, from, to, got, f)
				}
			}
		}
	}
}

func TestSliceOfWhatIsFar(t *testing.T) {
	for _, s := range []string{"", "abc\nd", text(300), full} {
		r := made(t, s)
		for _, a := range far() {
			for _, x := range []api.Span{span(a, 0), span(0, a), span(a, a), span(a, len(s)), span(len(s), a)} {
				if got, f := r.Slice(x); got != "" || f != api.ErrNone {
					t.Errorf("%.40q %v: %.40q, %v", s, x, got, f)
				}
			}
		}
		if got, f := r.Slice(span(0, len(s))); got != s || f != api.OK {
			t.Errorf("%d bytes: %.40q, %v", len(s), got, f)
		}
	}
}

func TestSplice(t *testing.T) {
	for _, s := range samples() {
		r := made(t, s)
		step := 1 + len(s)/40
		for start := 0; start <= len(s); start += step {
			for end := start; end <= len(s); end += step {
				for _, come := range []string{"", "\n", "XY", text(64), text(131)} {
					want := s[:start] + come + s[end:]
					holds(t, done(t, r, edit(start, end, come)), want)
				}
			}
		}
		holds(t, r, s)
	}
}

func TestSpliceAtLeavesEnds(t *testing.T) {
	s := text(320)
	r := made(t, s)
	for _, start := range []int{0, 63, 64, 65, 127, 128, 129, 256, 320} {
		for _, end := range []int{0, 63, 64, 65, 127, 128, 129, 256, 319, 320} {
			if start > end {
				continue
			}
			for _, come := range []string{"", "X", text(63), text(64), text(65)} {
				holds(t, done(t, r, edit(start, end, come)), s[:start]+come+s[end:])
			}
		}
	}
}

func TestSpliceOfWhatDoesNotFit(t *testing.T) {
	for _, s := range []string{"", "abc\nd", text(300), full, full[1:]} {
		r := made(t, s)
		for _, e := range misfits(len(s)) {
			want, wantError := edits.Apply(s, e)
			got, f := r.Splice(e)
			if f != wantError || (f != api.OK) != (got == nil) {
				t.Errorf("%d bytes, %d to %d, %d bytes: %v, %v", len(s), e.Start, e.End, len(e.Text), got, f)
			}
			if f == api.OK {
				holds(t, got, want)
			}
		}
		holds(t, r, s)
	}
}

func TestSpliceUpToTheLimit(t *testing.T) {
	r := made(t, full)
	for _, x := range []struct {
		e    api.Edit
		want api.Errno
	}{
		{edit(0, 0, "a"), api.ErrLong}, {edit(0, 1, "a"), api.OK}, {edit(0, 1, "ab"), api.ErrLong},
		{edit(0, api.MaxText, full), api.OK}, {edit(0, api.MaxText, over), api.ErrLong},
		{edit(api.MaxText, api.MaxText, "a"), api.ErrLong}, {edit(api.MaxText, api.MaxText, ""), api.OK},
		{edit(api.MaxText, api.MaxText+1, over), api.ErrSpan}, {edit(2, 1, over), api.ErrSpan},
	} {
		if s, f := r.Splice(x.e); f != x.want || (f != api.OK) != (s == nil) || check(r, x.e) != f {
			t.Errorf("%d to %d, %d bytes: %v", x.e.Start, x.e.End, len(x.e.Text), f)
		}
	}
	holds(t, r, full)
}

func TestVersionsStay(t *testing.T) {
	type version struct {
		r    *rope.Rope
		text string
	}
	d := dice(3)
	l := []version{{made(t, text(3000)), text(3000)}}
	for range 300 {
		// Of any version, not of the last one alone: what came of one is of no matter to the others.
		v := l[d.below(len(l))]
		e := d.edit(len(v.text))
		l = append(l, version{done(t, v.r, e), v.text[:e.Start] + e.Text + v.text[e.End:]})
	}
	for _, v := range l {
		holds(t, v.r, v.text)
	}
}

// sides are a text's places as package lines tells them, held against the rope's.
func sides(t *testing.T, r *rope.Rope, s string) {
	t.Helper()
	if n := r.Lines(); n != lines.Count(s) {
		t.Fatalf("%.40q: %d lines", s, n)
	}
	for at := -2; at <= len(s)+2; at++ {
		want, wantError := lines.Of(s, at)
		if p, f := r.Of(at); p != want || f != wantError {
			t.Fatalf("%.40q %d: %v, %v", s, at, p, f)
		}
	}
	for line := -1; line <= lines.Count(s); line++ {
		for col := -1; col <= 70; col++ {
			want, wantError := lines.At(s, place(line, col))
			if n, f := r.At(place(line, col)); n != want || f != wantError {
				t.Fatalf("%.40q %d %d: %d, %v", s, line, col, n, f)
			}
		}
	}
}

func TestPlaces(t *testing.T) {
	for _, s := range samples() {
		sides(t, made(t, s), s)
	}
	d := dice(5)
	s := text(700)
	r := made(t, s)
	for range 20 {
		e := d.edit(len(s))
		r, s = done(t, r, e), s[:e.Start]+e.Text+s[e.End:]
		sides(t, r, s)
	}
}

func TestPlacesOfLongLines(t *testing.T) {
	s := "x\n" + strings.Repeat("a", 500) + "\n" + strings.Repeat("b", 500)
	r := made(t, s)
	for line := range 4 {
		for col := range 510 {
			want, wantError := lines.At(s, place(line, col))
			if n, f := r.At(place(line, col)); n != want || f != wantError {
				t.Fatalf("%d %d: %d, %v", line, col, n, f)
			}
		}
	}
}

func TestPlacesOfTheLongestText(t *testing.T) {
	for _, s := range []string{full, strings.Repeat("\n", api.MaxText), strings.Repeat("a", api.MaxText)} {
		r := made(t, s)
		if n := r.Lines(); n != lines.Count(s) {
			t.Errorf("%.20q: %d lines", s, n)
		}
		for at := 0; at <= len(s); at += 1021 {
			want, _ := lines.Of(s, at)
			if p, f := r.Of(at); p != want || f != api.OK {
				t.Errorf("%.20q %d: %v, %v", s, at, p, f)
			}
			if n, f := r.At(want); n != at || f != api.OK {
				t.Errorf("%.20q %v: %d, %v", s, want, n, f)
			}
		}
	}
}

func TestPlacesThatAreFar(t *testing.T) {
	for _, s := range append(samples(), full) {
		r := made(t, s)
		for _, a := range far() {
			if p, f := r.Of(a); p != (api.Place{}) || f != api.ErrNone {
				t.Errorf("%.20q %d: %v, %v", s, a, p, f)
			}
			for _, p := range []api.Place{place(a, 0), place(0, a), place(a, a), place(1, a), place(a, 1), place(a, -a), place(r.Lines()-1, a)} {
				if n, f := r.At(p); n != 0 || f != api.ErrNone {
					t.Errorf("%.20q %v: %d, %v", s, p, n, f)
				}
			}
		}
	}
}

func TestRopesThatAreNotThere(t *testing.T) {
	there := made(t, "abc")
	for name, r := range none() {
		if r.Len() != 0 || r.Text() != "" || len(r.Leaves()) != 0 || r.Height() != 0 || r.Lines() != 0 {
			t.Errorf("%s: %d, %q, %v, %d, %d", name, r.Len(), r.Text(), r.Leaves(), r.Height(), r.Lines())
		}
		for _, at := range append(far(), 0, 1) {
			if b, f := r.Byte(at); b != 0 || f != api.ErrNil {
				t.Errorf("%s: Byte %d: %d, %v", name, at, b, f)
			}
			if s, f := r.Slice(span(at, 0)); s != "" || f != api.ErrNil {
				t.Errorf("%s: Slice %d: %q, %v", name, at, s, f)
			}
			if p, f := r.Of(at); p != (api.Place{}) || f != api.ErrNil {
				t.Errorf("%s: Of %d: %v, %v", name, at, p, f)
			}
			if n, f := r.At(place(at, at)); n != 0 || f != api.ErrNil {
				t.Errorf("%s: At %d: %d, %v", name, at, n, f)
			}
		}
		for _, e := range misfits(0) {
			if s, f := r.Splice(e); s != nil || f != api.ErrNil {
				t.Errorf("%s: %v: %v, %v", name, e, s, f)
			}
		}
		if a, b, c := rope.Shared(r, there), rope.Shared(there, r), rope.Shared(r, r); a != 0 || b != 0 || c != 0 {
			t.Errorf("%s: Shared %d, %d, %d", name, a, b, c)
		}
	}
}

func TestTheChaptersExamples(t *testing.T) {
	r := made(t, "abc\nd")
	if b, f := r.Byte(3); b != 10 || f != api.OK {
		t.Errorf("Byte 3: %d, %v", b, f)
	}
	if b, f := r.Byte(5); b != 0 || f != api.ErrNone {
		t.Errorf("Byte 5: %d, %v", b, f)
	}
	for _, x := range []struct {
		s    api.Span
		want string
		f    api.Errno
	}{{span(1, 4), "bc\n", api.OK}, {span(5, 5), "", api.OK}, {span(2, 6), "", api.ErrNone}, {span(2, 1), "", api.ErrNone}} {
		if s, f := r.Slice(x.s); s != x.want || f != x.f {
			t.Errorf("Slice %v: %q, %v", x.s, s, f)
		}
	}
	holds(t, done(t, r, edit(1, 3, "XY")), "aXY\nd")
	if s, f := r.Splice(edit(4, 2, "")); s != nil || f != api.ErrSpan {
		t.Errorf("Splice 4 2: %v, %v", s, f)
	}
	holds(t, r, "abc\nd")
	if p, f := r.Of(4); r.Lines() != 2 || p != place(1, 0) || f != api.OK {
		t.Errorf("%d lines; Of 4: %v, %v", r.Lines(), p, f)
	}
	if n, f := r.At(place(1, 1)); n != 5 || f != api.OK {
		t.Errorf("At 1 1: %d, %v", n, f)
	}
	if !slices.Equal(r.Leaves(), []string{"abc\nd"}) {
		t.Errorf("leaves %q", r.Leaves())
	}
	long := made(t, text(1000))
	more := done(t, long, edit(500, 500, "x"))
	if n := rope.Shared(long, more); n < len(more.Leaves())-3 {
		t.Errorf("%d of %d leaves are shared", n, len(more.Leaves()))
	}
}
