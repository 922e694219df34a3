package munch_test

import (
	"math"
	"reflect"
	"strings"
	"testing"

	"rootstock/api"
)

// known is the automaton of the chapter's examples.
var known = api.Dfa{Class: classes("a", "b"), Next: [][]int{{-1, 1, 2}, {-1, 1, 3}, {-1, -1, -1}, {-1, 4, -1}, {-1, -1, -1}}, Rule: []int{-1, 4, 5, -1, 6}}

func TestExamples(t *testing.T) {
	tells(t, "the examples", known,
		place{"aac", 0, 4, 2, 3}, place{"aa", 0, 4, 2, 3}, place{"aab", 0, 4, 2, 4}, place{"aabc", 0, 4, 2, 4}, place{"aaba", 0, 6, 4, 4},
		place{"b", 0, 5, 1, 1}, place{"bb", 0, 5, 1, 1}, place{"c", 0, -1, 0, 1}, place{"xab", 1, 4, 1, 3},
	)
}

func TestRuleAtStart(t *testing.T) {
	// The beginning of no byte is none, whatever ends at Start.
	tells(t, "Start alone", api.Dfa{Next: [][]int{{-1}}, Rule: []int{3}}, place{"a", 0, -1, 0, 1}, place{"aa", 0, -1, 0, 1}, place{"aa", 1, -1, 0, 1})
	ahead := api.Dfa{Class: classes("a"), Next: [][]int{{-1, 1}, {-1, 2}, {-1, -1}}, Rule: []int{3, -1, 5}}
	tells(t, "a rule further on", ahead, place{"b", 0, -1, 0, 1}, place{"ab", 0, -1, 0, 2}, place{"a", 0, -1, 0, 2}, place{"aa", 0, 5, 2, 2}, place{"aab", 0, 5, 2, 2})
	// That is told which is come to again, by bytes.
	ring := api.Dfa{Class: classes("a", "b"), Next: [][]int{{-1, 1, 0}, {-1, 0, -1}}, Rule: []int{3, -1}}
	tells(t, "a ring", ring, place{"c", 0, -1, 0, 1}, place{"a", 0, -1, 0, 2}, place{"ab", 0, -1, 0, 2}, place{"aa", 0, 3, 2, 3}, place{"aaa", 0, 3, 2, 4}, place{"aab", 0, 3, 3, 4}, place{"bac", 0, 3, 1, 3}, place{"aac", 0, 3, 2, 3})
}

func TestLongestBeginning(t *testing.T) {
	// One that a rule matches, and longer ones that none does, then one that some does.
	far := flat(8, 2)
	far.Class = classes("a")
	for i := range 7 {
		far.Next[i][1] = i + 1
	}
	far.Rule[2], far.Rule[6] = 9, 1
	tells(t, "far", far,
		place{"a", 0, -1, 0, 2}, place{"ab", 0, -1, 0, 2}, place{"aa", 0, 9, 2, 3}, place{"aab", 0, 9, 2, 3}, place{"aaa", 0, 9, 2, 4}, place{"aaaa", 0, 9, 2, 5}, place{"aaaaa", 0, 9, 2, 6}, place{"aaaaab", 0, 9, 2, 6},
		place{"aaaaaa", 0, 1, 6, 7}, place{"aaaaaab", 0, 1, 6, 7}, place{"aaaaaaa", 0, 1, 6, 7}, place{"aaaaaaaa", 0, 1, 6, 7},
	)
	// The longer one, whether its rule is a lesser number or a greater one, or the same.
	for _, rules := range [][2]int{{0, 47}, {47, 0}, {7, 7}} {
		two := changed(far, func(d *api.Dfa) { d.Rule[2], d.Rule[3] = rules[0], rules[1]; d.Rule[6] = math.MinInt })
		tells(t, "two", two, place{"aa", 0, rules[0], 2, 3}, place{"aaa", 0, rules[1], 3, 4}, place{"aaab", 0, rules[1], 3, 4}, place{"aaaaaaa", 0, rules[1], 3, 7})
	}
	// Below 0 no rule ends, and none leads anywhere, by whichever number.
	tells(t, "below 0", api.Dfa{Class: classes("a", "b"), Next: [][]int{{math.MinInt, 1, -2}, {-9, 2, -1}, {-2, -48, math.MinInt}}, Rule: []int{0, -7, math.MinInt}}, place{"c", 0, -1, 0, 1}, place{"b", 0, -1, 0, 1}, place{"ab", 0, -1, 0, 2}, place{"aa", 0, -1, 0, 2}, place{"a", 0, -1, 0, 2})
}

func TestBytesThatLeadNowhere(t *testing.T) {
	d := api.Dfa{Start: 2, Class: classes("a", "b"), Next: [][]int{{-1, 0, 1}, {-1, -1, 0}, {-1, 1, -1}}, Rule: []int{8, -1, 9}}
	tells(t, "the first one", d, place{"b", 0, -1, 0, 1}, place{"c", 0, -1, 0, 1}, place{"ba", 0, -1, 0, 1}, place{"ca", 0, -1, 0, 1})
	tells(t, "the second one", d, place{"aa", 0, -1, 0, 2}, place{"ac", 0, -1, 0, 2}, place{"aab", 0, -1, 0, 2})
	tells(t, "further on", d, place{"abc", 0, 8, 2, 3}, place{"abca", 0, 8, 2, 3}, place{"abba", 0, 8, 2, 4}, place{"abaac", 0, 8, 4, 5}, place{"abaacb", 0, 8, 4, 5}, place{"abbbba", 0, 8, 4, 6})
	// The last byte is looked at like all others; there is no end behind one that leads nowhere.
	tells(t, "the last one", d, place{"abbc", 0, 8, 2, 4}, place{"aba", 0, 8, 3, 4}, place{"ab", 0, 8, 2, 3}, place{"abb", 0, 8, 2, 4}, place{"a", 0, -1, 0, 2})
}

func TestStatesThatDoNotGoOn(t *testing.T) {
	d := api.Dfa{Class: classes("a", "b", "c"), Next: [][]int{{-1, 1, 2, 0}, {-1, -1, -1, -1}, {-2, math.MinInt, -1, -48}}, Rule: []int{-1, 5, -1}}
	tells(t, "no byte left", d, place{"a", 0, 5, 1, 1}, place{"ca", 0, 5, 2, 2}, place{"b", 0, -1, 0, 1}, place{"ccb", 0, -1, 0, 3})
	tells(t, "bytes left", d, place{"aa", 0, 5, 1, 1}, place{"ab", 0, 5, 1, 1}, place{"ax", 0, 5, 1, 1}, place{"cab", 0, 5, 2, 2}, place{"cabbb", 0, 5, 2, 2}, place{"bb", 0, -1, 0, 1}, place{"ccba", 0, -1, 0, 3}, place{"ccbaaaa", 0, -1, 0, 3})
	// One byte is looked at, even if Start does not go on.
	for _, d := range []api.Dfa{flat(1, 1), flat(1, 256), flat(3, 2), {Start: 1, Next: [][]int{{0}, {-7}}, Rule: []int{5, 5}}} {
		tells(t, "Start", d, place{"a", 0, -1, 0, 1}, place{"ab", 0, -1, 0, 1}, place{"ab", 1, -1, 0, 1}, place{"\x00\xff", 0, -1, 0, 1})
	}
}

func TestClassesThatNoByteHas(t *testing.T) {
	// By such a class one goes on, though no byte leads there: a byte that leads nowhere is looked at, and the text's end.
	d := api.Dfa{Class: classes("a"), Next: [][]int{{-1, 1, -1}, {-1, -1, 0}}, Rule: []int{-1, 5}}
	tells(t, "a class behind the others", d, place{"a", 0, 5, 1, 2}, place{"aa", 0, 5, 1, 2}, place{"ab", 0, 5, 1, 2}, place{"aaa", 0, 5, 1, 2}, place{"b", 0, -1, 0, 1})
	ahead := api.Dfa{Next: [][]int{{-1, 1, -1}, {0, -1, -1}}, Rule: []int{-1, 5}}
	for b := range 256 {
		ahead.Class[b] = 2
	}
	ahead.Class['a'] = 1
	tells(t, "a class ahead of the others", ahead, place{"a", 0, 5, 1, 2}, place{"aa", 0, 5, 1, 2}, place{"ab", 0, 5, 1, 2}, place{"b", 0, -1, 0, 1})
	// From Start, too, but there one byte is looked at all the same.
	tells(t, "from Start", api.Dfa{Next: [][]int{{-1, 0}}, Rule: []int{5}}, place{"a", 0, -1, 0, 1}, place{"ab", 0, -1, 0, 1})
	last := api.Dfa{Next: [][]int{times(256, -1), times(256, -1)}, Rule: []int{-1, 5}}
	last.Next[0][0], last.Next[1][255] = 1, 1
	tells(t, "the last of 256", last, place{"a", 0, 5, 1, 2}, place{"aa", 0, 5, 1, 2})
}

func TestTextThatEnds(t *testing.T) {
	// While the automaton goes on the end counts as one byte, whether a rule ends there or not, and whether one could still be come to.
	d := api.Dfa{Class: classes("a", "b"), Next: [][]int{{-1, 1, 2}, {-1, 1, 0}, {2, 2, 2}}, Rule: []int{-1, 5, -1}}
	tells(t, "a rule ends there", d, place{"a", 0, 5, 1, 2}, place{"aaa", 0, 5, 3, 4}, place{"aba", 0, 5, 3, 4})
	tells(t, "none ends there", d, place{"ab", 0, 5, 1, 3}, place{"aaab", 0, 5, 3, 5})
	tells(t, "none can be come to any more", d, place{"b", 0, -1, 0, 2}, place{"bac", 0, -1, 0, 4}, place{"abb", 0, 5, 1, 4}, place{"abbxyz", 0, 5, 1, 7})
}

func TestPlacesInTheMiddle(t *testing.T) {
	all := make([]byte, 256)
	for b := range all {
		all[b] = byte(b)
	}
	for _, ahead := range []string{"a", "b", "c", "ab", "aab", "aaba", "\x00", "\xff\xfe", "\n", string(all), strings.Repeat("ab", 500)} {
		n := len(ahead)
		tells(t, ahead, known,
			place{ahead + "aac", n, 4, 2, 3}, place{ahead + "aa", n, 4, 2, 3}, place{ahead + "aab", n, 4, 2, 4}, place{ahead + "aabc", n, 4, 2, 4}, place{ahead + "aaba", n, 6, 4, 4}, place{ahead + "aabaa", n, 6, 4, 4},
			place{ahead + "b", n, 5, 1, 1}, place{ahead + "bb", n, 5, 1, 1}, place{ahead + "bb", n + 1, 5, 1, 1}, place{ahead + "c", n, -1, 0, 1}, place{ahead + "ca", n + 1, 4, 1, 2},
		)
	}
}

func TestEachByte(t *testing.T) {
	each := api.Dfa{Start: 1, Next: [][]int{times(256, -1), nil}, Rule: []int{6, -1}}
	for b := range 256 {
		each.Class[b] = uint8(b)
	}
	for b := range 256 {
		each.Next[1] = times(256, 1)
		each.Next[1][b] = 0
		for c := range 256 {
			m := found(t, each, string([]byte{7, byte(c)}), 1)
			if want := (api.Munch{Rule: -1, Look: 2}); b != c && m != want {
				t.Errorf("%d, %d: %v", b, c, m)
			}
			if want := (api.Munch{Rule: 6, Len: 1, Look: 1}); b == c && m != want {
				t.Errorf("%d, %d: %v", b, c, m)
			}
		}
	}
}

func TestGreatAutomataAndLongTexts(t *testing.T) {
	// A ring of all states that may be, of which the last one alone has a rule.
	ring := flat(2048, 256)
	for i, row := range ring.Next {
		row[0] = (i + 1) % 2048
	}
	ring.Rule[2047] = 47
	for _, n := range []int{1, 2046, 2047, 2048, 4094, 4095, 4096, api.MaxText, api.MaxText + 1, 1 << 20} {
		want := api.Munch{Rule: 47, Len: (n+1)/2048*2048 - 1, Look: n + 1}
		if n < 2047 {
			want = api.Munch{Rule: -1, Look: n + 1}
		}
		if m := found(t, ring, strings.Repeat("x", n), 0); m != want {
			t.Errorf("%d: %v, not %v", n, m, want)
		}
		if m := found(t, ring, strings.Repeat("y", 3000)+strings.Repeat("x", n), 3000); m != want {
			t.Errorf("3000 and %d: %v, not %v", n, m, want)
		}
	}
	// Where the ring is open there is an end.
	ring.Next[2047][0] = -1
	for _, x := range []place{{strings.Repeat("x", 2047), 0, 47, 2047, 2047}, {strings.Repeat("x", 2048), 0, 47, 2047, 2047}, {strings.Repeat("x", 9000), 6000, 47, 2047, 2047}, {strings.Repeat("x", 2046), 0, -1, 0, 2047}} {
		tells(t, "a row", ring, x)
	}
}

func TestArgumentsStayWhatTheyWere(t *testing.T) {
	d := dice(3)
	for range 300 {
		p := d.plain()
		was := copied(p)
		text := d.text(1+d.roll(6), "ab")
		at := d.roll(len(text))
		first := found(t, p, text, at)
		if again := found(t, p, text, at); again != first || !reflect.DeepEqual(p, was) {
			t.Errorf("%v became %v: %v, %v", was, p, first, again)
		}
	}
}
