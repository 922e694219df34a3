package sets_test

import (
	"regexp"
	"strings"

	"rootstock/api"
)

// edges are the first and the last byte of each word, and those beside them.
var edges = []int{0, 1, 62, 63, 64, 65, 126, 127, 128, 129, 190, 191, 192, 193, 254, 255}

// flags are a set, byte by byte.
type flags [256]bool

// flagged is a set byte by byte, by what package api says of its words.
func flagged(s api.Set) flags {
	var f flags
	for w, word := range s {
		for bit := 0; bit < 64; bit++ {
			f[w*64+bit] = word%2 == 1
			word /= 2
		}
	}
	return f
}

// made is the set of the bytes that are told.
func made(in func(n int) bool) api.Set {
	var s api.Set
	for w := range s {
		for bit := 63; bit >= 0; bit-- {
			s[w] *= 2
			if in(w*64 + bit) {
				s[w]++
			}
		}
	}
	return s
}

// span is the set of the bytes from one up to another one.
func span(from, to int) api.Set {
	return made(func(n int) bool { return from <= n && n <= to })
}

// of is the set of a text's bytes.
func of(text string) api.Set {
	return made(func(n int) bool { return strings.IndexByte(text, byte(n)) >= 0 })
}

// every is all bytes, rising.
func every() string {
	var b []byte
	for n := 0; n < 256; n++ {
		b = append(b, byte(n))
	}
	return string(b)
}

// mixed are sets of about that share of 8 of all bytes, the same ones in each run.
func mixed(share, count int) []api.Set {
	x := uint32(share)
	var l []api.Set
	for i := 0; i < count; i++ {
		l = append(l, made(func(int) bool {
			x = x*1664525 + 1013904223
			return int(x>>24%8) < share
		}))
	}
	return l
}

// samples are sets around the edges of words, around half of all bytes, of the bytes that classes write in their own way, and mixed ones.
func samples() []api.Set {
	l := []api.Set{
		{}, span(0, 255), {1, 0, 0, 0}, {0, 0, 0, 1 << 63}, {0, 1, 0, 0}, {1<<64 - 1, 0, 0, 1<<64 - 1},
		of(`\[]^-`), of("\n\t\r"), of("\n\t\r" + `\[]^-`), of("ntr"), of("nbtcr"), of(" \n-az"), of("+,-./"), of("[\\]"), of("Z[\\]^_"),
		span(0, 126), span(0, 127), span(0, 128), span(127, 255), span(128, 255), span(129, 255), span(64, 191), span(64, 192),
		made(func(n int) bool { return n%2 == 0 }), made(func(n int) bool { return n%2 == 1 }), made(func(n int) bool { return n%2 == 0 || n == 255 }),
		made(func(n int) bool { return n%3 != 0 }), made(func(n int) bool { return n%4 != 0 }), made(func(n int) bool { return n%4 == 3 || n%8 < 3 }),
	}
	for _, n := range edges {
		l = append(l, span(n, n), made(func(m int) bool { return m != n }))
	}
	for share := 1; share < 8; share++ {
		l = append(l, mixed(share, 12)...)
	}
	return l
}

// spelled is a byte as a class writes it.
func spelled(n int) string {
	switch n {
	case 10:
		return "\\n"
	case 9:
		return "\\t"
	case 13:
		return "\\r"
	case 92, 91, 93, 94, 45:
		return "\\" + string([]byte{byte(n)})
	}
	return string([]byte{byte(n)})
}

// printed is the class of a set, by the chapter's words.
func printed(s api.Set) string {
	f := flagged(s)
	count := 0
	for _, in := range f {
		if in {
			count++
		}
	}
	out, wanted := "[", true
	if count > 128 {
		out, wanted = "[^", false
	}
	for n := 0; n < 256; n++ {
		end := n
		for end < 256 && f[end] == wanted {
			end++
		}
		if end-n >= 3 {
			out += spelled(n) + "-" + spelled(end-1)
			n = end
		}
		for ; n < end; n++ {
			out += spelled(n)
		}
	}
	return out + "]"
}

const (
	writtenForm = `(?:\\[ntr\\\[\]^-]|[^\\\[\]^-])`
	itemForm    = writtenForm + `(?:-` + writtenForm + `)?`
)

var (
	aClass  = regexp.MustCompile(`(?s)\A\[(\^?)((?:` + itemForm + `)*)\]\z`)
	anItem  = regexp.MustCompile(`(?s)` + itemForm)
	aByte   = regexp.MustCompile(`(?s)` + writtenForm)
	letters = map[string]rune{`\n`: 10, `\t`: 9, `\r`: 13}
)

// runes is a text whose runes are the bytes of another one, as a regexp goes by runes.
func runes(text string) string {
	var l []rune
	for i := 0; i < len(text); i++ {
		l = append(l, rune(text[i]))
	}
	return string(l)
}

// said is what a class says, by the chapter's words; not ok, if the text is none.
func said(text string) (api.Set, bool) {
	m := aClass.FindStringSubmatch(runes(text))
	if m == nil {
		return api.Set{}, false
	}
	f := flags{}
	for _, item := range anItem.FindAllString(m[2], -1) {
		var ends []int
		for _, b := range aByte.FindAllString(item, -1) {
			l := []rune(b)
			n := l[len(l)-1]
			if c, ok := letters[b]; ok {
				n = c
			}
			ends = append(ends, int(n))
		}
		first, last := ends[0], ends[len(ends)-1]
		if first > last {
			return api.Set{}, false
		}
		for n := first; n <= last; n++ {
			f[n] = true
		}
	}
	return made(func(n int) bool { return f[n] == (m[1] == "") }), true
}

// texts are all texts of at most n of the bytes that mean something in a class, and of some others.
func texts(n int) []string {
	l := []string{""}
	for from := 0; n > 0; n-- {
		to := len(l)
		for ; from < to; from++ {
			for _, b := range `[]^-\an` {
				l = append(l, l[from]+string(b))
			}
		}
	}
	return l
}
