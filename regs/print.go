package regs

import (
	"strings"

	"rootstock/api"
	"rootstock/sets"
)

// Print is the text of a pattern.
func Print(r api.Reg) (string, api.Errno) {
	if e := Check(r); e != api.OK {
		return "", e
	}
	var out strings.Builder
	write(&out, r)
	if out.Len() > api.MaxPattern {
		return "", api.ErrLong
	}
	return out.String(), api.OK
}

// write tells a pattern that may be.
func write(out *strings.Builder, r api.Reg) {
	switch r.Kind {
	case api.RegNone:
		out.WriteString("[]")
	case api.RegEmpty:
	case api.RegSet:
		writeSet(out, r.Set)
	case api.RegCat:
		writeParts(out, r, "")
	case api.RegAlt:
		writeParts(out, r, "|")
	default:
		writeParts(out, r, "")
		out.WriteByte(repeats[r.Kind-api.RegStar])
	}
}

// writeParts tells a pattern's parts, with something between them, in brackets where they would be read as something else.
func writeParts(out *strings.Builder, r api.Reg, between string) {
	for i, p := range r.Parts {
		if i > 0 {
			out.WriteString(between)
		}
		if !enclosed(r.Kind, p.Kind) {
			write(out, p)
			continue
		}
		out.WriteByte('(')
		write(out, p)
		out.WriteByte(')')
	}
}

// enclosed tells whether a part of some kind stands in brackets in a pattern of some kind.
func enclosed(whole, part int) bool {
	if whole == api.RegAlt {
		return part == api.RegAlt
	}
	return part == api.RegEmpty || part == api.RegCat || part == api.RegAlt
}

// writeSet tells a set as an atom.
func writeSet(out *strings.Builder, s api.Set) {
	switch {
	case s == inLine():
		out.WriteByte('.')
	case sets.Count(s) == 1:
		writeByte(out, sets.Members(s)[0])
	default:
		out.WriteString(sets.Print(s))
	}
}

// writeByte tells a byte as an atom.
func writeByte(out *strings.Builder, b byte) {
	i := strings.IndexByte(lettered, b)
	if i >= 0 {
		b = letters[i]
	}
	if i >= 0 || isSign(b) {
		out.WriteByte('\\')
	}
	out.WriteByte(b)
}
