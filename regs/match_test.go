package regs_test

import (
	"regexp"
	"strconv"
	"strings"
	"testing"

	"rootstock/api"
	"rootstock/regs"
	"rootstock/sets"
)

// matches is what Matches tells, which must be no error.
func matches(t *testing.T, r api.Reg, text string) bool {
	t.Helper()
	is, e := regs.Matches(r, text)
	if e != api.OK {
		t.Errorf("%q, %.20q: %v", told(r), text, e)
	}
	return is
}

// read is the pattern of a text.
func read(t *testing.T, text string) api.Reg {
	t.Helper()
	r, _, e := regs.Parse(text)
	if e != api.OK {
		t.Fatalf("%q: %v", text, e)
	}
	return r
}

func TestMatches(t *testing.T) {
	for _, x := range []struct {
		pattern string
		are     []string
		arent   []string
	}{
		{"(a|ab)(c|bcd)*", []string{"abcd", "acbcd", "a", "abc", "ab"}, []string{"", "abb", "b", "acb", "abcda"}},
		{"", []string{""}, []string{"a", "\x00"}}, {"[]", nil, []string{"", "a"}}, {"a", []string{"a"}, []string{"", "b", "aa", "A"}}, {"[]*", []string{""}, []string{"a"}}, {"a[]|b", []string{"b"}, []string{"a", "", "ab"}}, {"[]?a", []string{"a"}, []string{""}}, {"[]+", nil, []string{"", "a"}},
		{".", []string{"a", "\x00", "\xff", "\r"}, []string{"\n", "", "aa"}}, {"[^]", []string{"\n", "a", "\xff"}, []string{"", "ab"}}, {"[^a-c]+", []string{"d", "\n\n"}, []string{"", "da"}},
		{"a*", []string{"", "a", "aaaa"}, []string{"b", "aab", "baa"}}, {"a+", []string{"a", "aaaa"}, []string{"", "ab"}}, {"a?", []string{"", "a"}, []string{"aa"}}, {"a|", []string{"", "a"}, []string{"aa"}}, {"(a?)+", []string{"", "a", "aa"}, []string{"b"}}, {"(a*)?", []string{"", "aa"}, []string{"b"}}, {"(a+)*", []string{"", "aa"}, []string{"ab"}}, {"()*", []string{""}, []string{"a"}}, {"()+", []string{""}, []string{"a"}},
		{"ab", []string{"ab"}, []string{"", "a", "b", "ba", "abab", "aab"}}, {"(ab)*", []string{"", "ab", "abab"}, []string{"a", "aba", "ba"}}, {"a?b?c?", []string{"", "ac", "b", "abc", "bc"}, []string{"ca", "aa", "acb"}}, {"(a*b?)*", []string{"", "aabba", "bbb"}, []string{"abc"}}, {"(a|b)*abb", []string{"abb", "ababb", "aabb"}, []string{"ab", "abba"}}, {"a()b", []string{"ab"}, []string{"a", ""}},
		{`[\t ]+`, []string{" ", "\t \t"}, []string{"", "\n", " a"}}, {`\r?\n`, []string{"\n", "\r\n"}, []string{"\r", "\n\n"}}, {`'[^\n']*'`, []string{"''", "'a b'"}, []string{"'", "'''", "'\n'"}}, {"[A-Z_a-z][0-9A-Z_a-z]*", []string{"if", "x1", "_"}, []string{"", "1x", "a-b"}},
	} {
		r := read(t, x.pattern)
		for _, text := range x.are {
			if !matches(t, r, text) {
				t.Errorf("%q does not match %q", x.pattern, text)
			}
		}
		for _, text := range x.arent {
			if matches(t, r, text) {
				t.Errorf("%q matches %q", x.pattern, text)
			}
		}
	}
}

func TestMatchesByTheWords(t *testing.T) {
	l := above(small())
	short := texts(3, "ab")
	for i, r := range l {
		for j, text := range short {
			if j > 6 && i%4 != j%4 {
				continue
			}
			if is, want := matches(t, r, text), matched(r, text); is != want {
				t.Errorf("%q, %q: %v", told(r), text, is)
			}
		}
	}
	d := dice(3)
	for range 3000 {
		r := d.pattern(1 + d.roll(5))
		text := d.text(d.roll(7), "abc\n*")
		if is, want := matches(t, r, text), matched(r, text); is != want {
			t.Errorf("%q, %q: %v", told(r), text, is)
		}
	}
}

func TestMatchesEachByte(t *testing.T) {
	l := []api.Reg{of(""), whole, dot, of("a"), in(sets.Range(0, 63)), in(sets.Range(64, 127)), in(sets.Range(128, 191)), in(sets.Range(192, 255)), in(sets.Range(60, 200)), in(sets.Not(sets.Of("\x00\xff")))}
	for _, r := range l {
		for n := range 256 {
			text := string([]byte{byte(n)})
			if is := matches(t, r, text); is != sets.Has(r.Set, byte(n)) {
				t.Errorf("%q, %q: %v", told(r), text, is)
			}
			if is := matches(t, star(cat(r, r)), text+text); is != sets.Has(r.Set, byte(n)) {
				t.Errorf("two of %q, %q: %v", told(r), text, is)
			}
		}
	}
}

// form is a pattern as a regexp of runes.
func form(r api.Reg) string {
	out := "(?:"
	for i, p := range r.Parts {
		if i > 0 && r.Kind == api.RegAlt {
			out += "|"
		}
		out += form(p)
	}
	switch r.Kind {
	case api.RegNone:
		return `[^\x00-\x{10FFFF}]`
	case api.RegSet:
		class := `[^\x00-\x{10FFFF}`
		if sets.Count(r.Set) > 0 {
			class = "["
		}
		for _, b := range []byte(sets.Members(r.Set)) {
			class += `\x{` + strconv.FormatInt(int64(b), 16) + "}"
		}
		return class + "]"
	}
	return out + ")" + map[int]string{api.RegStar: "*", api.RegPlus: "+", api.RegMaybe: "?"}[r.Kind]
}

// grown is a text that a pattern matches, if it matches any.
func (d *dice) grown(r api.Reg, most int) string {
	out := ""
	switch r.Kind {
	case api.RegSet:
		if m := sets.Members(r.Set); m != "" {
			i := d.roll(len(m))
			return m[i : i+1]
		}
	case api.RegCat:
		for _, p := range r.Parts {
			out += d.grown(p, most/len(r.Parts))
		}
	case api.RegAlt:
		return d.grown(r.Parts[d.roll(len(r.Parts))], most)
	case api.RegStar, api.RegPlus:
		out = d.grown(r.Parts[0], most/4)
		for i := 0; i < 100 && len(out) < most; i++ {
			out += d.grown(r.Parts[0], most/4)
		}
	case api.RegMaybe:
		return d.grown(r.Parts[0], most)
	}
	return out
}

func TestMatchesOfLongTexts(t *testing.T) {
	d := dice(4)
	found := map[bool]int{}
	for range 300 {
		r := d.pattern(3 + d.roll(6))
		if regs.Check(r) != api.OK {
			continue
		}
		want := regexp.MustCompile(`(?s)\A` + form(r) + `\z`)
		text := d.grown(r, 200)
		i := d.roll(len(text) + 1)
		for _, text := range []string{text, text + "a", text[:i] + "b" + text[i:], text[:i] + text[min(i+1, len(text)):]} {
			is := matches(t, r, text)
			if is != want.MatchString(runes(text)) {
				t.Errorf("%q, %q: %v", told(r), text, is)
			}
			if len(text) > 100 {
				found[is]++
			}
		}
	}
	if found[true] < 50 || found[false] < 50 {
		t.Errorf("%v long texts", found)
	}
}

func TestMatchesAtTheLimits(t *testing.T) {
	a := of("a")
	full := strings.Repeat("a", api.MaxText)
	for i, x := range []struct {
		r    api.Reg
		text string
		want bool
	}{
		{star(a), full, true}, {star(a), full[1:] + "b", false}, {star(cat(a, a)), full, true}, {star(cat(a, a)), full[1:], false}, {star(cat(a, a, a)), full, false}, {none, full, false}, {a, full, false}, {star(alt(star(a), star(of("b")))), full, true},
		{star(alt(times(510, a)...)), full, true}, {down(15, api.RegStar, a), full, true}, {down(14, api.RegStar, alt(times(497, a)...)), full[1:] + "b", false}, {cat(append(times(255, maybe(a)), of("b"))...), full[:255] + "b", true}, {cat(append(times(255, maybe(a)), of("b"))...), full[:256] + "b", false},
		{star(cat(times(510, a)...)), full[:510*128], true}, {star(cat(times(510, a)...)), full[:510*128+1], false}, {star(cat(times(510, a)...)), full, false}, {star(alt(cat(times(200, a)...), cat(times(307, a)...))), full[:200*7+307*11], true}, {star(alt(cat(times(200, a)...), cat(times(307, a)...))), full[:199], false},
		{star(maybe(plus(cat(star(a), maybe(of("b")))))), strings.Repeat("ab", api.MaxText/2), true}, {cat(times(511, a)...), full[:511], true}, {cat(times(511, a)...), full[:510], false}, {cat(times(511, a)...), full[:512], false}, {cat(times(255, star(a))...), full, true},
	} {
		if is := matches(t, x.r, x.text); is != x.want {
			t.Errorf("%d: %v", i, is)
		}
	}
	for _, r := range []api.Reg{a, none, empty, star(a), star(whole), cat(times(511, a)...)} {
		for _, more := range []int{1, 2, api.MaxText} {
			if is, e := regs.Matches(r, full+strings.Repeat("a", more)); is || e != api.ErrLong {
				t.Errorf("%d bytes more: %v, %v", more, is, e)
			}
		}
	}
}
