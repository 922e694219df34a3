package regs

import (
	"strings"

	"rootstock/api"
	"rootstock/sets"
)

const (
	// signs are the bytes that mean something in a pattern, unless a backslash stands ahead of them.
	signs = `.*+?|()[]\`
	// repeats are the signs behind an atom, in the order of the kinds from RegStar on.
	repeats = "*+?"
	// letters behind a backslash stand for the bytes of lettered.
	letters  = "ntr"
	lettered = "\n\t\r"
)

// Parse is the pattern of a text, or the place at which that is none.
func Parse(pattern string) (r api.Reg, at int, e api.Errno) {
	if len(pattern) > api.MaxPattern {
		return api.Reg{}, 0, api.ErrLong
	}
	in := reader{text: pattern}
	defer func() {
		switch x := recover(); x {
		case nil:
		case api.ErrForm:
			r, at, e = api.Reg{}, in.at, api.ErrForm
		default:
			// Nobody gave up: this is a fault of the reader's own, not the text's.
			panic(x)
		}
	}()
	r = in.whole()
	if depth(r) > api.MaxNest {
		return api.Reg{}, 0, api.ErrDeep
	}
	return r, 0, api.OK
}

// reader reads a pattern's text from the left. It gives up by a panic, so that no step has to hand an error on to the one above it.
type reader struct {
	text string
	at   int
}

// giveUp tells the place of what may not stand there.
func (r *reader) giveUp(at int) {
	r.at = at
	panic(api.ErrForm)
}

// ahead tells whether one of some bytes comes next.
func (r *reader) ahead(bytes string) bool {
	return r.at < len(r.text) && strings.IndexByte(bytes, r.text[r.at]) >= 0
}

// pass goes on behind a byte, if that comes next.
func (r *reader) pass(b string) bool {
	if !r.ahead(b) {
		return false
	}
	r.at++
	return true
}

// next is the next byte, which must be there.
func (r *reader) next() byte {
	if r.at == len(r.text) {
		r.giveUp(r.at)
	}
	r.at++
	return r.text[r.at-1]
}

// whole reads a choice that is all there is.
func (r *reader) whole() api.Reg {
	p := r.choice()
	if r.at < len(r.text) {
		r.giveUp(r.at)
	}
	return p
}

// choice reads up to a closing bracket that is none of its own, or up to the end.
func (r *reader) choice() api.Reg {
	rows := []api.Reg{r.row()}
	for r.pass("|") {
		rows = append(rows, r.row())
	}
	return joined(api.RegAlt, rows)
}

// row reads what stands between two strokes.
func (r *reader) row() api.Reg {
	var things []api.Reg
	for r.at < len(r.text) && !r.ahead("|)") {
		things = append(things, r.thing())
	}
	if len(things) == 0 {
		return api.Reg{Kind: api.RegEmpty}
	}
	return joined(api.RegCat, things)
}

// joined is the one part that there is, or a pattern of all of them.
func joined(kind int, parts []api.Reg) api.Reg {
	if len(parts) == 1 {
		return parts[0]
	}
	return api.Reg{Kind: kind, Parts: parts}
}

// thing reads an atom and the signs behind it.
func (r *reader) thing() api.Reg {
	p := r.atom()
	for r.ahead(repeats) {
		kind := api.RegStar + strings.IndexByte(repeats, r.next())
		p = api.Reg{Kind: kind, Parts: []api.Reg{p}}
	}
	return p
}

// atom reads what signs behind it are about.
func (r *reader) atom() api.Reg {
	switch {
	case r.pass("("):
		p := r.choice()
		// A choice ends ahead of a closing bracket, or at the end, where next gives up.
		r.next()
		return p
	case r.ahead("["):
		return api.Reg{Kind: api.RegSet, Set: r.class()}
	case r.pass("."):
		return api.Reg{Kind: api.RegSet, Set: inLine()}
	}
	b := r.single()
	return api.Reg{Kind: api.RegSet, Set: sets.Range(b, b)}
}

// single reads a byte as an atom.
func (r *reader) single() byte {
	behind := r.pass(`\`)
	b := r.next()
	if i := strings.IndexByte(letters, b); behind && i >= 0 {
		return lettered[i]
	}
	if behind != isSign(b) {
		r.giveUp(r.at - 1)
	}
	return b
}

// isSign tells whether a byte is written with a backslash ahead of it.
func isSign(b byte) bool {
	return strings.IndexByte(signs, b) >= 0
}

// class reads a class. What its bytes and items are package sets knows; the places of what are none it does not tell.
func (r *reader) class() api.Set {
	from := r.at
	r.pass("[")
	r.pass("^")
	for !r.pass("]") {
		r.item()
	}
	s, _ := sets.Parse(r.text[from:r.at])
	return s
}

// item reads an item of a class.
func (r *reader) item() {
	first := r.written()
	if r.pass("-") && !isItem(first, r.written()) {
		r.giveUp(r.at - 1)
	}
}

// written reads a byte as a class writes it, and is how it is written.
func (r *reader) written() string {
	from := r.at
	r.pass(`\`)
	r.next()
	w := r.text[from:r.at]
	if !isItem(w, w) {
		r.giveUp(r.at - 1)
	}
	return w
}

// isItem tells whether a class may have an item of two bytes that are written so. (An item of one would not do: it may be a sign that means something there.)
func isItem(first, second string) bool {
	_, e := sets.Parse("[" + first + "-" + second + "]")
	return e == api.OK
}
