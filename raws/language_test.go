package raws_test

import (
	"reflect"
	"slices"
	"strings"
	"testing"

	"rootstock/api"
	"rootstock/dfa"
	"rootstock/mini"
	"rootstock/nfa"
	"rootstock/regs"
)

func TestRules(t *testing.T) {
	if len(language) != len(table) || len(table) != 23 {
		t.Fatalf("%d rules", len(language))
	}
	for i, x := range table {
		if s, e := regs.Print(language[i].Reg); s != x.pattern || e != api.OK || language[i].Kind != x.kind {
			t.Errorf("%d: kind %d, %q, %v, not kind %d, %q", i, language[i].Kind, s, e, x.kind, x.pattern)
		}
	}
}

func TestDfa(t *testing.T) {
	var rules []api.Rule
	for _, x := range table {
		r, _, e := regs.Parse(x.pattern)
		if e != api.OK {
			t.Fatalf("%q: %v", x.pattern, e)
		}
		rules = append(rules, api.Rule{Kind: x.kind, Reg: r})
	}
	n, e := nfa.Of(rules)
	if e != api.OK {
		t.Fatal(e)
	}
	d, e := dfa.Of(n)
	if e != api.OK {
		t.Fatal(e)
	}
	least, e := mini.Least(d)
	if e != api.OK || dfa.Check(own) != api.OK {
		t.Fatal(e)
	}
	if !reflect.DeepEqual(own, least) {
		t.Errorf("%v, not %v", own, least)
	}
	// Counted by the table: 1 for Start, 1 for blanks, 1 for comments, 3 for lines that go on, 2 for line ends, 24 for words, 1 for names, 1 for numbers, 2 for texts, 10 for signs.
	if len(own.Next) != 46 {
		t.Errorf("%d states", len(own.Next))
	}
	if again, e := mini.Least(own); e != api.OK || !reflect.DeepEqual(again, own) {
		t.Errorf("%v, of which the least one is %v", own, again)
	}
}

func TestDfaTellsTheFirstRuleThatMatches(t *testing.T) {
	d := dice(3)
	some := texts(3, "'\\\r\n #a1(")
	for range 2000 {
		some = append(some, d.line(1+d.roll(3)))
	}
	seen := map[int]bool{}
	for _, text := range some {
		want := slices.IndexFunc(language, func(r api.Rule) bool {
			is, e := regs.Matches(r.Reg, text)
			return is && e == api.OK
		})
		if rule, e := dfa.Rule(own, text); rule != want || e != api.OK {
			t.Errorf("%q: %d, %v, not %d", text, rule, e, want)
		}
		seen[want] = true
	}
	if len(seen) != 24 {
		t.Errorf("%v", seen)
	}
}

func TestMixedLinesByRegexps(t *testing.T) {
	d := dice(4)
	r := newReader()
	seen := map[int]int{}
	for _, text := range texts(4, "'\\\r\n a") {
		if l, want := told(t, language, own, text), r.pieces(text); !slices.Equal(l, want) {
			t.Errorf("%q: %v, not %v", text, l, want)
		}
	}
	for range 1500 {
		text := d.line(d.roll(16))
		l, want := told(t, language, own, text), r.pieces(text)
		if !slices.Equal(l, want) {
			t.Errorf("%q: %v, not %v", text, l, want)
		}
		for _, p := range l {
			seen[p.Kind]++
		}
	}
	for _, x := range table {
		if seen[x.kind] < 50 {
			t.Errorf("kind %d: %d", x.kind, seen[x.kind])
		}
	}
	if seen[api.KBad] < 500 {
		t.Errorf("bad: %d", seen[api.KBad])
	}
}

func TestEachRuleByItself(t *testing.T) {
	// What could have been longer has been looked at behind, the text's end too.
	for text, kind := range map[string]int{
		" ": api.KSpace, "\t": api.KSpace, " \t\t ": api.KSpace, "#": api.KComment, "#?'\\#\x00\xff\r": api.KComment,
		"pass": api.KPass, "if": api.KIf, "else": api.KElse, "while": api.KWhile, "def": api.KDef, "return": api.KReturn,
		"a": api.KName, "Z": api.KName, "_": api.KName, "a_Z09": api.KName, "0": api.KNumber, "0129": api.KNumber,
	} {
		reads(t, text, api.Raw{Kind: kind, Len: len(text), Look: len(text) + 1})
	}
	// What could not ends with all that was looked at.
	for text, kind := range map[string]int{
		"\\\n": api.KJoin, "\\\r\n": api.KJoin, "\n": api.KNewline, "\r\n": api.KNewline, "''": api.KText, "'a'": api.KText, "'\x00 \"#\\\r\xff'": api.KText,
		"(": api.KOpen, ")": api.KClose, ",": api.KComma, ":": api.KColon, "=": api.KIs, "+": api.KPlus, "-": api.KMinus, "*": api.KStar, "<": api.KLess, ">": api.KMore,
	} {
		p := api.Raw{Kind: kind, Len: len(text), Look: len(text)}
		reads(t, text, p)
		reads(t, text+text, p, p)
	}
}

func TestEachByte(t *testing.T) {
	// The kind of each byte by itself, and whether the end behind it was looked at.
	want := [256]api.Raw{}
	for b := range want {
		want[b] = api.Raw{Kind: api.KBad, Len: 1, Look: 1}
	}
	set := func(bytes string, kind, look int) {
		for i := range len(bytes) {
			want[bytes[i]] = api.Raw{Kind: kind, Len: 1, Look: look}
		}
	}
	set(" \t", api.KSpace, 2)
	set("abcdefghijklmnopqrstuvwxyz_ABCDEFGHIJKLMNOPQRSTUVWXYZ", api.KName, 2)
	set("0123456789", api.KNumber, 2)
	set("\\\r'", api.KBad, 2)
	set("#", api.KComment, 2)
	for sign, kind := range map[string]int{"\n": api.KNewline, "(": api.KOpen, ")": api.KClose, ",": api.KComma, ":": api.KColon, "=": api.KIs, "+": api.KPlus, "-": api.KMinus, "*": api.KStar, "<": api.KLess, ">": api.KMore} {
		set(sign, kind, 1)
	}
	for b, p := range want {
		reads(t, string([]byte{byte(b)}), p)
	}
}

func TestLongerOnesAndFirstOnes(t *testing.T) {
	// A word with more behind it, with less, or in other letters is a name.
	for _, word := range []string{"pass", "if", "else", "while", "def", "return"} {
		for _, name := range []string{word + "a", word + "_", word + "0", word + word, "a" + word, "_" + word, word[:len(word)-1], word[1:], strings.ToUpper(word), strings.ToUpper(word[:1]) + word[1:]} {
			reads(t, name, api.Raw{Kind: api.KName, Len: len(name), Look: len(name) + 1})
		}
	}
	reads(t, "else if", api.Raw{Kind: api.KElse, Len: 4, Look: 5}, api.Raw{Kind: api.KSpace, Len: 1, Look: 2}, api.Raw{Kind: api.KIf, Len: 2, Look: 3})
	reads(t, "0if", api.Raw{Kind: api.KNumber, Len: 1, Look: 2}, api.Raw{Kind: api.KIf, Len: 2, Look: 3})
	reads(t, "\r\n\n", api.Raw{Kind: api.KNewline, Len: 2, Look: 2}, api.Raw{Kind: api.KNewline, Len: 1, Look: 1})
	reads(t, "#'a'\n", api.Raw{Kind: api.KComment, Len: 4, Look: 5}, api.Raw{Kind: api.KNewline, Len: 1, Look: 1})
	// A comment has all bytes but a line feed: the one ahead of this, too.
	reads(t, "#\r\n", api.Raw{Kind: api.KComment, Len: 2, Look: 3}, api.Raw{Kind: api.KNewline, Len: 1, Look: 1})
	reads(t, "'#'#", api.Raw{Kind: api.KText, Len: 3, Look: 3}, api.Raw{Kind: api.KComment, Len: 1, Look: 2})
	// A text ends where it can: the next one begins behind.
	reads(t, "'a'b'", api.Raw{Kind: api.KText, Len: 3, Look: 3}, api.Raw{Kind: api.KName, Len: 1, Look: 2}, api.Raw{Kind: api.KBad, Len: 1, Look: 2})
	reads(t, "==", api.Raw{Kind: api.KIs, Len: 1, Look: 1}, api.Raw{Kind: api.KIs, Len: 1, Look: 1})
	// Of rules that match as many bytes the first one is told, wherever it stands.
	for i, patterns := range [][]string{{"if", "[a-z]+"}, {"[a-z]+", "if"}, {"i|if", "if?", "[a-z]+"}} {
		var rules []api.Rule
		for k, s := range patterns {
			r, _, _ := regs.Parse(s)
			rules = append(rules, api.Rule{Kind: 10 + k, Reg: r})
		}
		n, _ := nfa.Of(rules)
		d, e := dfa.Of(n)
		if e != api.OK {
			t.Fatal(e)
		}
		tells(t, i, rules, d, "if", api.Raw{Kind: 10, Len: 2, Look: 3})
		tells(t, i, rules, d, "if.", api.Raw{Kind: 10, Len: 2, Look: 3}, api.Raw{Kind: api.KBad, Len: 1, Look: 1})
	}
}

func TestBytesAtWhichNoRuleIsTold(t *testing.T) {
	bad := func(look int) api.Raw { return api.Raw{Kind: api.KBad, Len: 1, Look: look} }
	name := api.Raw{Kind: api.KName, Len: 1, Look: 2}
	feed := api.Raw{Kind: api.KNewline, Len: 1, Look: 1}
	reads(t, "??", bad(1), bad(1))
	reads(t, "?a!", bad(1), name, bad(1))
	reads(t, "a\xc3\xa4b", name, bad(1), bad(1), name)
	// A line that goes on has its end behind the stroke: what else stands there was looked at.
	reads(t, "\\a", bad(2), name)
	reads(t, "\\\\\n", bad(2), api.Raw{Kind: api.KJoin, Len: 2, Look: 2})
	reads(t, "\\\r", bad(3), bad(2))
	reads(t, "\\\ra", bad(3), bad(2), name)
	reads(t, "a\\", name, bad(2))
	reads(t, "\r\r\r", bad(2), bad(2), bad(2))
	reads(t, "\r\r\n", bad(2), api.Raw{Kind: api.KNewline, Len: 2, Look: 2})
	// For a text without an end all was looked at up to the line's end, and this.
	reads(t, "'", bad(2))
	reads(t, "'\n", bad(2), feed)
	reads(t, "'a\n'", bad(3), name, feed, bad(2))
	reads(t, "'?\r\n'", bad(4), bad(1), api.Raw{Kind: api.KNewline, Len: 2, Look: 2}, bad(2))
	reads(t, "'ab\xff", bad(5), api.Raw{Kind: api.KName, Len: 2, Look: 3}, bad(1))
}
