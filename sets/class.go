package sets

import (
	"strings"

	"rootstock/api"
)

// signs are the bytes that mean something in a class, unless a backslash stands ahead of them.
const signs = `\[]^-`

// A class of a set of more than half of all bytes is told by what is not in it.
const half = all / 2

// Print is the class of a set.
func Print(s api.Set) string {
	var out strings.Builder
	out.WriteByte('[')
	if Count(s) > half {
		out.WriteByte('^')
		s = Not(s)
	}
	for _, r := range runs(s) {
		r.write(&out)
	}
	out.WriteByte(']')
	return out.String()
}

// Parse is the set that a class says.
func Parse(text string) (api.Set, api.Errno) {
	r := reader{left: text}
	if !r.sign('[') {
		return api.Set{}, api.ErrForm
	}
	not := r.sign('^')
	var s api.Set
	for !r.sign(']') {
		a, b, ok := r.item()
		if !ok {
			return api.Set{}, api.ErrForm
		}
		s = Union(s, Range(a, b))
	}
	if r.left != "" {
		return api.Set{}, api.ErrForm
	}
	if not {
		s = Not(s)
	}
	return s, api.OK
}

// run is a stretch of bytes of a set, of which those ahead and behind are not in it.
type run struct {
	first, last byte
}

// runs are a set's bytes in stretches, rising.
func runs(s api.Set) []run {
	var l []run
	for n := range all {
		b := byte(n)
		if !Has(s, b) {
			continue
		}
		if b > 0 && Has(s, b-1) {
			l[len(l)-1].last = b
		} else {
			l = append(l, run{first: b, last: b})
		}
	}
	return l
}

// write tells the items of a stretch.
func (r run) write(out *strings.Builder) {
	writeByte(out, r.first)
	if r.first == r.last {
		return
	}
	// Two bytes are two items.
	if r.last-r.first > 1 {
		out.WriteByte('-')
	}
	writeByte(out, r.last)
}

// writeByte tells a byte as a class writes it.
func writeByte(out *strings.Builder, b byte) {
	switch b {
	case '\n':
		out.WriteString(`\n`)
	case '\t':
		out.WriteString(`\t`)
	case '\r':
		out.WriteString(`\r`)
	default:
		if isSign(b) {
			out.WriteByte('\\')
		}
		out.WriteByte(b)
	}
}

// reader reads a class from the left.
type reader struct {
	left string
}

// sign goes on behind a sign, if that comes next.
func (r *reader) sign(b byte) bool {
	if r.left == "" || r.left[0] != b {
		return false
	}
	r.left = r.left[1:]
	return true
}

// item reads an item: its first byte and its last one.
func (r *reader) item() (a, b byte, ok bool) {
	a, ok = r.written()
	if !ok || !r.sign('-') {
		return a, a, ok
	}
	b, ok = r.written()
	return a, b, ok && a <= b
}

// written reads a byte as a class writes it.
func (r *reader) written() (byte, bool) {
	behind := r.sign('\\')
	if r.left == "" {
		return 0, false
	}
	b := r.left[0]
	r.left = r.left[1:]
	if behind {
		return meant(b)
	}
	return b, !isSign(b)
}

// meant is the byte that a backslash and a byte behind it write.
func meant(b byte) (byte, bool) {
	switch b {
	case 'n':
		return '\n', true
	case 't':
		return '\t', true
	case 'r':
		return '\r', true
	}
	return b, isSign(b)
}

// isSign tells whether a byte is written with a backslash ahead of it.
func isSign(b byte) bool {
	return strings.IndexByte(signs, b) >= 0
}
