package rope_test

import (
	"math"
	"math/bits"
	"strings"
	"testing"
	"unsafe"

	"rootstock/api"
	"rootstock/edits"
	"rootstock/rope"
)

// full has as many bytes as a text may have, over as many as that and one more.
var (
	full = strings.Repeat("0123456789abcde\n", api.MaxText/16)
	over = full + "x"
)

func edit(start, end int, text string) api.Edit {
	return api.Edit{Start: start, End: end, Text: text}
}

func span(from, to int) api.Span {
	return api.Span{From: from, To: to}
}

func place(line, col int) api.Place {
	return api.Place{Line: line, Col: col}
}

// text has n bytes, of all values, and some lines.
func text(n int) string {
	b := make([]byte, n)
	for i := range b {
		b[i] = byte(i*7 + i/256)
		if i%23 == 11 || i%64 == 63 && i%3 == 0 {
			b[i] = '\n'
		}
	}
	return string(b)
}

// samples are texts around the lengths at which leaves begin, with lines of many kinds.
func samples() []string {
	l := []string{
		"abc\nd", "\n", "\n\n", "a\r\n\xff", strings.Repeat("\n", 150), strings.Repeat("a", 150), strings.Repeat("a", 64) + "\n" + strings.Repeat("b", 64),
		strings.Repeat("a", 63) + "\n" + strings.Repeat("b", 63) + "\n", "\n" + strings.Repeat("c", 200) + "\n",
	}
	for _, n := range []int{0, 1, 2, 63, 64, 65, 127, 128, 129, 191, 192, 193, 300} {
		l = append(l, text(n))
	}
	return l
}

// made is a rope of a text.
func made(t *testing.T, text string) *rope.Rope {
	t.Helper()
	r, f := rope.New(text)
	if r == nil || f != api.OK {
		t.Fatalf("New of %d bytes: %v, %v", len(text), r, f)
	}
	return r
}

// done is a rope behind an edit that fits.
func done(t *testing.T, r *rope.Rope, e api.Edit) *rope.Rope {
	t.Helper()
	s, f := r.Splice(e)
	if s == nil || f != api.OK {
		t.Fatalf("Splice of %d to %d, %d bytes: %v", e.Start, e.End, len(e.Text), f)
	}
	return s
}

// holds tells what is not as it should be of a rope of a text.
func holds(t *testing.T, r *rope.Rope, text string) {
	t.Helper()
	if r.Len() != len(text) || r.Text() != text {
		t.Fatalf("%d bytes, %d were asked: %.40q, %.40q", r.Len(), len(text), r.Text(), text)
	}
	if n := r.Lines(); n != strings.Count(text, "\n")+1 {
		t.Fatalf("%.40q: %d lines", text, n)
	}
	at := 0
	for i, s := range r.Leaves() {
		if len(s) < 1 || len(s) > api.MaxChunk || !strings.HasPrefix(text[at:], s) {
			t.Fatalf("leaf %d: %q", i, s)
		}
		at += len(s)
	}
	if at != len(text) {
		t.Fatalf("leaves have %d bytes, the text %d", at, len(text))
	}
	if h := r.Height(); h < 0 || h > highest(len(r.Leaves())) {
		t.Fatalf("%d leaves, height %d", len(r.Leaves()), h)
	}
}

// highest is the most that a rope of n leaves may be high.
func highest(n int) int {
	if n < 2 {
		return 0
	}
	return 2*bits.Len(uint(n)) + 2
}

// least is how many leaves a rope, made by an edit of another one, shares with that one at least.
func least(s *rope.Rope, e api.Edit) int {
	return len(s.Leaves()) - 2 - (len(e.Text)+api.MaxChunk-1)/api.MaxChunk
}

// alike counts the leaves that two ropes share, by where their bytes lie in memory.
func alike(a, b *rope.Rope) int {
	l, m := a.Leaves(), b.Leaves()
	n := 0
	for len(l) > 0 && len(m) > 0 && unsafe.StringData(l[0]) == unsafe.StringData(m[0]) {
		l, m = l[1:], m[1:]
		n++
	}
	for len(l) > 0 && len(m) > 0 && unsafe.StringData(l[len(l)-1]) == unsafe.StringData(m[len(m)-1]) {
		l, m = l[:len(l)-1], m[:len(m)-1]
		n++
	}
	return n
}

// dice are numbers that look like thrown ones, the same in each run.
type dice uint64

func (d *dice) below(n int) int {
	*d = *d*6364136223846793005 + 1442695040888963407
	return int(uint64(*d) >> 33 % uint64(n))
}

// edit is one that fits a text of n bytes, most often a small one.
func (d *dice) edit(n int) api.Edit {
	sizes := []int{0, 0, 1, 1, 2, 3, 63, 64, 65, 128, 200, 400}
	start := d.below(n + 1)
	end := min(n, start+sizes[d.below(len(sizes))])
	come := min(sizes[d.below(len(sizes))], api.MaxText-n)
	return edit(start, end, text(500)[d.below(100):][:come])
}

// far are numbers that are no offset, no line and no column of any text.
func far() []int {
	return []int{-1, -2, math.MinInt, math.MinInt + 1, math.MaxInt, math.MaxInt - 1, api.MaxText + 1, 1 << 32, -1 << 32}
}

// none are ropes that are not there.
func none() map[string]*rope.Rope {
	return map[string]*rope.Rope{"nil": nil, "new": new(rope.Rope), "zero": {}}
}

// misfits are edits that do not fit a text of n bytes, and some that do.
func misfits(n int) []api.Edit {
	l := []api.Edit{
		edit(-1, 0, ""), edit(-1, -1, over), edit(0, -1, ""), edit(1, 0, ""), edit(n+1, n+1, ""), edit(0, n+1, "a"), edit(n, n+1, over),
		edit(0, 0, full), edit(0, n, full), edit(0, n, over), edit(0, 0, over), edit(n, n, "a"), edit(n, n, ""),
	}
	for _, a := range far() {
		for _, b := range far() {
			l = append(l, edit(a, b, ""), edit(a, b, "abc"))
		}
	}
	return l
}

// check is the error that an edit of a rope is to have.
func check(r *rope.Rope, e api.Edit) api.Errno {
	return edits.Check(len(r.Text()), e)
}
