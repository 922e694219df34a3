package munch_test

import (
	"testing"

	"rootstock/api"
	"rootstock/regs"
)

func TestMixedOnesByTheWords(t *testing.T) {
	d := dice(1)
	short := texts(4, "ab")[1:]
	kinds := map[string]int{}
	for range 1500 {
		p := d.plain()
		for _, text := range append(short, d.text(1+d.roll(20), "ab"), d.text(1+d.roll(9), "abc\x00\xff"), "\x00", "\xff", "c\xffab") {
			at := d.roll(len(text))
			left := text[at:]
			m, want := found(t, p, text, at), byTheWords(t, p, left)
			if m != want {
				t.Fatalf("%v, %q at %d: %v, not %v", p, text, at, m, want)
			}
			kinds["a rule"] += sign(m.Rule >= 0)
			kinds["none"] += sign(m.Rule < 0)
			kinds["less than was looked at"] += sign(0 < m.Len && m.Len < m.Look-1)
			kinds["the end"] += sign(m.Look > len(left))
			kinds["bytes beyond"] += sign(m.Look < len(left))
			kinds["all that was looked at"] += sign(m.Len == m.Look)
			kinds["a rule at Start"] += sign(p.Rule[p.Start] >= 0 && m.Len == 0)
		}
	}
	for kind, n := range kinds {
		if n < 500 {
			t.Errorf("%s: %d", kind, n)
		}
	}
}

func sign(is bool) int {
	if is {
		return 1
	}
	return 0
}

func TestNoLongerBeginning(t *testing.T) {
	patterns := []string{"if", "[a-z]+", "[0-9]+(\\.[0-9]+)?", "\\.\\.\\.", "(ab)*c?", "'[^\n']*'", "#.*"}
	p := ruled(t, patterns...)
	d := dice(2)
	told := map[int]int{}
	for range 1500 {
		text := d.text(1+d.roll(12), "ifab1.'\n#c")
		at := d.roll(len(text))
		left := text[at:]
		m := found(t, p, text, at)
		rule, n := longest(t, patterns, left)
		if m.Rule != rule || m.Len != n || m.Len > m.Look || m.Look < 1 || m.Look > len(left)+1 {
			t.Errorf("%q at %d: %v, not %d of %d bytes", text, at, m, rule, n)
		}
		told[m.Rule]++
	}
	if len(told) < 7 {
		t.Errorf("%v", told)
	}
	tells(t, "patterns", p,
		place{"if x", 0, 0, 2, 3}, place{"if", 0, 0, 2, 3}, place{"iff", 0, 1, 3, 4}, place{"i.", 0, 1, 1, 2}, place{"1.5.", 0, 2, 3, 4}, place{"1.x", 0, 2, 1, 3}, place{"1.", 0, 2, 1, 3}, place{"1..", 0, 2, 1, 3},
		place{"..", 0, -1, 0, 3}, place{"...", 0, 3, 3, 3}, place{"....", 0, 3, 3, 3}, place{"....", 1, 3, 3, 3}, place{"....", 2, -1, 0, 3}, place{"..x", 0, -1, 0, 3},
		place{"'a", 0, -1, 0, 3}, place{"'a\n", 0, -1, 0, 3}, place{"'a'b", 0, 5, 3, 3}, place{"#\n", 0, 6, 1, 2}, place{"\n", 0, -1, 0, 1}, place{"?", 0, -1, 0, 1},
	)
}

// longest is the longest beginning of one byte at least that a pattern matches, and the least number of these.
func longest(t *testing.T, patterns []string, left string) (rule, n int) {
	t.Helper()
	for n := len(left); n > 0; n-- {
		for i, s := range patterns {
			is, e := regs.Matches(parsed(t, s), left[:n])
			if e != api.OK {
				t.Fatalf("%q, %q: %v", s, left, e)
			}
			if is {
				return i, n
			}
		}
	}
	return -1, 0
}

func TestOnlyWhatWasLookedAtDecides(t *testing.T) {
	d := dice(4)
	kinds := map[bool]int{}
	for range 2000 {
		p := d.plain()
		for range 8 {
			text := d.text(1+d.roll(8), "abc")
			at := d.roll(len(text))
			m := found(t, p, text, at)
			if m.Len > m.Look {
				t.Errorf("%v, %q at %d: %v", p, text, at, m)
			}
			// Of as many bytes as were looked at, with any behind them; if the end was looked at, of all of them, and nothing behind.
			same := text[at:]
			seen := m.Look <= len(same)
			kinds[seen]++
			for range 5 {
				ahead, other := d.text(d.roll(6), "abc\xff"), same
				if seen {
					other = same[:m.Look] + d.text(d.roll(6), "abc\xff")
				}
				if n := found(t, p, ahead+other, len(ahead)); n != m {
					t.Errorf("%v, %q at %d: %v, but %q at %d: %v", p, text, at, m, ahead+other, len(ahead), n)
				}
			}
		}
	}
	if kinds[true] < 3000 || kinds[false] < 3000 {
		t.Errorf("%v", kinds)
	}
}

func TestPlacesThatLookAlike(t *testing.T) {
	// All pairs of places of all small texts.
	d := dice(5)
	var lefts []string
	for _, text := range texts(4, "ab") {
		for at := range len(text) {
			lefts = append(lefts, text[at:])
		}
	}
	alike := 0
	for range 60 {
		p := d.plain()
		told := map[string]api.Munch{}
		for _, left := range lefts {
			told[left] = found(t, p, "b"+left, 1)
		}
		for x, m := range told {
			for y, n := range told {
				if m.Look <= len(x) && m.Look <= len(y) && x[:m.Look] == y[:m.Look] {
					alike++
					if m != n {
						t.Errorf("%v: %q: %v, but %q: %v", p, x, m, y, n)
					}
				}
			}
		}
	}
	if alike < 3000 {
		t.Errorf("%d", alike)
	}
}

func TestTheEndDecidesWhereItWasLookedAt(t *testing.T) {
	// What is told may be another thing with bytes behind, just where the end was looked at.
	tells(t, "with bytes behind", known, place{"aab", 0, 4, 2, 4}, place{"aaba", 0, 6, 4, 4}, place{"aabaa", 0, 6, 4, 4}, place{"aa", 0, 4, 2, 3}, place{"aaa", 0, 4, 3, 4})
	p := ruled(t, "a*", "a*b")
	tells(t, "patterns", p, place{"aaa", 0, 0, 3, 4}, place{"aaab", 0, 1, 4, 4}, place{"aaac", 0, 0, 3, 4}, place{"aaabb", 0, 1, 4, 4}, place{"c", 0, -1, 0, 1})
}
