package regs_test

import (
	"regexp"
	"strings"

	"rootstock/api"
	"rootstock/sets"
)

var (
	none  = api.Reg{Kind: api.RegNone}
	empty = api.Reg{Kind: api.RegEmpty}
	dot   = in(sets.Not(sets.Of("\n")))
	whole = in(sets.Not(api.Set{}))
)

// in is a pattern of a set's bytes.
func in(s api.Set) api.Reg { return api.Reg{Kind: api.RegSet, Set: s} }

// of is a pattern of a text's bytes, each of them alone.
func of(bytes string) api.Reg { return in(sets.Of(bytes)) }

// put is a pattern of parts.
func put(kind int, parts ...api.Reg) api.Reg { return api.Reg{Kind: kind, Parts: parts} }

func cat(parts ...api.Reg) api.Reg { return put(api.RegCat, parts...) }
func alt(parts ...api.Reg) api.Reg { return put(api.RegAlt, parts...) }
func star(part api.Reg) api.Reg    { return put(api.RegStar, part) }
func plus(part api.Reg) api.Reg    { return put(api.RegPlus, part) }
func maybe(part api.Reg) api.Reg   { return put(api.RegMaybe, part) }

// times is as many of one pattern.
func times(n int, r api.Reg) []api.Reg {
	l := make([]api.Reg, n)
	for i := range l {
		l[i] = r
	}
	return l
}

// down is a pattern that is so many deeper than another one.
func down(n int, kind int, r api.Reg) api.Reg {
	for range n {
		r = put(kind, r)
	}
	return r
}

// same tells whether two patterns are one and the same.
func same(a, b api.Reg) bool {
	if a.Kind != b.Kind || a.Set != b.Set || len(a.Parts) != len(b.Parts) {
		return false
	}
	for i := range a.Parts {
		if !same(a.Parts[i], b.Parts[i]) {
			return false
		}
	}
	return true
}

// copied is a pattern in memory of its own.
func copied(r api.Reg) api.Reg {
	c := api.Reg{Kind: r.Kind, Set: r.Set}
	for _, p := range r.Parts {
		c.Parts = append(c.Parts, copied(p))
	}
	return c
}

// texts are all texts of at most n of some bytes, the short ones first.
func texts(n int, bytes string) []string {
	l := []string{""}
	for from := 0; n > 0; n-- {
		to := len(l)
		for ; from < to; from++ {
			for i := range len(bytes) {
				l = append(l, l[from]+bytes[i:i+1])
			}
		}
	}
	return l
}

// above are all patterns of one or two of some as parts, and those themselves.
func above(l []api.Reg) []api.Reg {
	m := append([]api.Reg{}, l...)
	for _, a := range l {
		m = append(m, cat(a), alt(a), star(a), plus(a), maybe(a))
		for _, b := range l {
			m = append(m, cat(a, b), alt(a, b))
		}
	}
	return m
}

// small are patterns of all kinds, and of all kinds within all kinds, two above one another.
func small() []api.Reg {
	return above([]api.Reg{none, empty, of(""), of("a"), of("ab")})
}

// dice are numbers, the same ones in each run.
type dice uint32

func (d *dice) roll(n int) int {
	*d = *d*1664525 + 1013904223
	return int(*d>>8) % n
}

// pattern is a mixed one, at most so deep.
func (d *dice) pattern(deep int) api.Reg {
	if deep == 1 || d.roll(5) == 0 {
		l := []api.Reg{of("a"), of("b"), of("ab"), of("c"), of("^"), of("-"), of("*"), of("\n"), dot, whole, empty, of("a"), of("b"), of("ac")}
		return l[d.roll(len(l))]
	}
	kind := api.RegCat + d.roll(api.RegMaybe-api.RegCat+1)
	if kind > api.RegAlt {
		return put(kind, d.pattern(deep-1))
	}
	r := put(kind)
	for range 1 + d.roll(4) {
		r.Parts = append(r.Parts, d.pattern(deep-1))
	}
	return r
}

// text is a mixed one of some bytes.
func (d *dice) text(n int, bytes string) string {
	b := make([]byte, n)
	for i := range b {
		b[i] = bytes[d.roll(len(bytes))]
	}
	return string(b)
}

// matched tells whether a pattern matches a text, by the chapter's words.
func matched(r api.Reg, text string) bool {
	switch r.Kind {
	case api.RegEmpty:
		return text == ""
	case api.RegSet:
		return len(text) == 1 && sets.Has(r.Set, text[0])
	case api.RegCat:
		return rowMatched(r.Parts, text)
	case api.RegAlt:
		for _, p := range r.Parts {
			if matched(p, text) {
				return true
			}
		}
		return false
	case api.RegStar:
		return text == "" || severally(r.Parts[0], text)
	case api.RegPlus:
		return matched(r.Parts[0], text) || severally(r.Parts[0], text)
	case api.RegMaybe:
		return text == "" || matched(r.Parts[0], text)
	}
	return false
}

// rowMatched tells whether parts match a text one behind the other.
func rowMatched(parts []api.Reg, text string) bool {
	if len(parts) == 0 {
		return text == ""
	}
	for i := 0; i <= len(text); i++ {
		if matched(parts[0], text[:i]) && rowMatched(parts[1:], text[i:]) {
			return true
		}
	}
	return false
}

// severally tells whether a pattern matches pieces of a text, one behind the other, each of one byte at least.
func severally(r api.Reg, text string) bool {
	for i := 1; i <= len(text); i++ {
		if matched(r, text[:i]) && (i == len(text) || severally(r, text[i:])) {
			return true
		}
	}
	return false
}

// runes is a text whose runes are the bytes of another one, as a regexp goes by runes.
func runes(text string) string {
	var l []rune
	for i := range len(text) {
		l = append(l, rune(text[i]))
	}
	return string(l)
}

// atomForm is a class, a byte behind a backslash, or a byte.
var atomForm = regexp.MustCompile(`(?s)\[(?:\\.|[^\]\\])*\]|\\.|.`)

// meant is the pattern that a text of patterns says, by the chapter's words: its atoms, strokes, brackets and signs are told apart first, then choices are parted.
func meant(text string) api.Reg {
	var l []string
	for _, a := range atomForm.FindAllString(runes(text), -1) {
		b := ""
		for _, c := range a {
			b += string([]byte{byte(c)})
		}
		l = append(l, b)
	}
	return choiceMeant(l)
}

func choiceMeant(l []string) api.Reg {
	var rows []api.Reg
	open, from := 0, 0
	for i, a := range append(l[:len(l):len(l)], "|") {
		switch {
		case a == "(":
			open++
		case a == ")":
			open--
		case a == "|" && open == 0:
			rows = append(rows, rowMeant(l[from:i]))
			from = i + 1
		}
	}
	if len(rows) == 1 {
		return rows[0]
	}
	return alt(rows...)
}

func rowMeant(l []string) api.Reg {
	var things []api.Reg
	for i := 0; i < len(l); i++ {
		if kind := map[string]int{"*": api.RegStar, "+": api.RegPlus, "?": api.RegMaybe}[l[i]]; kind != 0 {
			last := len(things) - 1
			things[last] = put(kind, things[last])
			continue
		}
		if l[i] != "(" {
			things = append(things, atomMeant(l[i]))
			continue
		}
		from := i + 1
		for open := 1; open > 0; {
			i++
			open += map[string]int{"(": 1, ")": -1}[l[i]]
		}
		things = append(things, choiceMeant(l[from:i]))
	}
	switch len(things) {
	case 0:
		return empty
	case 1:
		return things[0]
	}
	return cat(things...)
}

func atomMeant(a string) api.Reg {
	switch {
	case a == ".":
		return dot
	case a[0] == '[':
		s, _ := sets.Parse(a)
		return in(s)
	case len(a) == 2:
		if b, ok := map[string]string{"n": "\n", "t": "\t", "r": "\r"}[a[1:]]; ok {
			return of(b)
		}
		return of(a[1:])
	}
	return of(a)
}

// stray is the place of the first byte that may not stand where it stands, by the chapter's words; -1, if there is none. It goes from byte to byte, and knows of what is ahead only what it needs.
func stray(text string) int {
	const (
		outside  = iota // between atoms, where no sign may stand
		behind          // behind an atom or a sign
		escaped         // behind a backslash
		opened          // behind [
		items           // where an item may begin
		one             // behind a byte of an item that may go on
		dashed          // behind the - of an item
		oneSlash        // behind a backslash, of a first byte
		slashed         // behind a backslash, of a second one
		letter   = "\n\t\r"
	)
	at, open, first := outside, 0, byte(0)
	for i := range len(text) {
		b := text[i]
		is := func(l string) bool { return strings.IndexByte(l, b) >= 0 }
		// What a byte in a class stands for, if it may stand there.
		ok := !is(`\[]^-`)
		if at == oneSlash || at == slashed {
			ok = is(`\[]^-ntr`)
			if n := strings.IndexByte("ntr", b); n >= 0 {
				b = letter[n]
			}
		}
		switch {
		case at == outside && is("*+?"), at <= behind && is("]"), at <= behind && b == ')' && open == 0:
			return i
		case at <= behind && b == '\\':
			at = escaped
		case at <= behind && b == '[':
			at = opened
		case at <= behind && b == '(':
			at = outside
			open++
		case at <= behind && b == '|':
			at = outside
		case at <= behind:
			at = behind
			if b == ')' {
				open--
			}
		case at == escaped && !is(`.*+?|()[]\ntr`):
			return i
		case at == escaped:
			at = behind
		case at == opened && b == '^':
			at = items
		case (at == opened || at == items || at == one) && b == ']':
			at = behind
		case (at == opened || at == items || at == one) && b == '\\':
			at = oneSlash
		case at == one && b == '-':
			at = dashed
		case at == dashed && b == '\\':
			at = slashed
		case !ok, (at == dashed || at == slashed) && b < first:
			return i
		case at == dashed || at == slashed:
			at = items
		default:
			at, first = one, b
		}
	}
	if at > behind || open > 0 {
		return len(text)
	}
	return -1
}

// told is a pattern's text, by the chapter's words.
func told(r api.Reg) string {
	var l []string
	for _, p := range r.Parts {
		s := told(p)
		if p.Kind == api.RegAlt || r.Kind != api.RegAlt && (p.Kind == api.RegCat || p.Kind == api.RegEmpty) {
			s = "(" + s + ")"
		}
		l = append(l, s)
	}
	switch r.Kind {
	case api.RegNone:
		return "[]"
	case api.RegSet:
		return setTold(r.Set)
	case api.RegAlt:
		return strings.Join(l, "|")
	}
	return strings.Join(l, "") + map[int]string{api.RegStar: "*", api.RegPlus: "+", api.RegMaybe: "?"}[r.Kind]
}

func setTold(s api.Set) string {
	m := sets.Members(s)
	switch {
	case len(m) == 255 && strings.IndexByte(m, 10) < 0:
		return "."
	case len(m) != 1:
		return sets.Print(s)
	case m == "\n":
		return `\n`
	case m == "\t":
		return `\t`
	case m == "\r":
		return `\r`
	case strings.Contains(`.*+?|()[]\`, m):
		return `\` + m
	}
	return m
}
