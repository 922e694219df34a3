package relex_test

import (
	"math"
	"reflect"
	"slices"
	"testing"

	"rootstock/api"
	"rootstock/edits"
	"rootstock/indent"
	"rootstock/raws"
	"rootstock/relex"
)

// scanner is rules and an automaton.
type scanner struct {
	rules []api.Rule
	d     api.Dfa
}

// language is the language's own scanner.
var language = scanner{raws.Rules(), raws.Dfa()}

// times is as many of one thing.
func times[T any](n int, x T) []T { return slices.Repeat([]T{x}, n) }

// edit is one from an offset up to another one.
func edit(start, end int, text string) api.Edit {
	return api.Edit{Start: start, End: end, Text: text}
}

// kinds are rules of some kinds; their patterns are none that the automata of these tests are made of.
func kinds(l ...int) []api.Rule {
	var rules []api.Rule
	for _, k := range l {
		rules = append(rules, api.Rule{Kind: k})
	}
	return rules
}

// scan is a new one, which must be no error.
func scan(t *testing.T, by scanner, text string) *relex.Scan {
	t.Helper()
	s, f := relex.New(by.rules, by.d, text)
	if f != api.OK || s == nil {
		t.Fatalf("%.40q: %v", text, f)
	}
	return s
}

// change is what an edit makes of a scan, which must be no error.
func change(t *testing.T, s *relex.Scan, e api.Edit) (*relex.Scan, api.Relexed) {
	t.Helper()
	n, r, f := s.Edit(e)
	if f != api.OK || n == nil {
		t.Fatalf("%.40q, %d to %d, %.40q: %v", s.Text(), e.Start, e.End, e.Text, f)
	}
	return n, r
}

// lexed is what a text comes to by the layers below alone.
func lexed(t *testing.T, by scanner, text string) api.Lexed {
	t.Helper()
	l, f := raws.Of(by.rules, by.d, text)
	if f != api.OK {
		t.Fatalf("%.40q: %v", text, f)
	}
	x, f := indent.All(text, l)
	if f != api.OK {
		t.Fatalf("%.40q: %v", text, f)
	}
	return x
}

// applied is the text behind an edit, which must be no error.
func applied(t *testing.T, text string, e api.Edit) string {
	t.Helper()
	behind, f := edits.Apply(text, e)
	if f != api.OK {
		t.Fatalf("%.40q, %d to %d, %.40q: %v", text, e.Start, e.End, e.Text, f)
	}
	return behind
}

// alike tells whether two texts have come to the same.
func alike(x, y api.Lexed) bool {
	return slices.Equal(x.Raws, y.Raws) && slices.EqualFunc(x.Marks, y.Marks, sameMark) && slices.Equal(x.Counts, y.Counts) && slices.Equal(x.Tokens, y.Tokens)
}

func sameMark(m, n api.Mark) bool {
	same := slices.Equal(m.Cols, n.Cols)
	m.Cols, n.Cols = nil, nil
	return same && reflect.DeepEqual(m, n)
}

// is holds that a scan has some text, and comes to what that comes to.
func is(t *testing.T, by scanner, s *relex.Scan, text string) {
	t.Helper()
	if s.Text() != text {
		t.Fatalf("the text is %.80q, not %.80q", s.Text(), text)
	}
	if x, want := s.Lexed(), lexed(t, by, text); !alike(x, want) {
		t.Fatalf("%.80q: %.800v, not %.800v", text, x, want)
	}
}

// places are where pieces begin.
func places(l []api.Raw) []int {
	var starts []int
	at := 0
	for _, p := range l {
		starts = append(starts, at)
		at += p.Len
	}
	return starts
}

// what is told of an edit by the words: of the old text and the new one, each scanned as a whole.
type told struct {
	api.Relexed
	kept int  // pieces
	back bool // whether the old ones come back
}

func byTheWords(t *testing.T, by scanner, text string, e api.Edit) told {
	t.Helper()
	old, x := lexed(t, by, text), lexed(t, by, applied(t, text, e))
	r := told{Relexed: api.Relexed{Lexed: x}}
	was, is := places(old.Raws), places(x.Raws)
	for r.kept < len(was) && was[r.kept]+max(old.Raws[r.kept].Len, old.Raws[r.kept].Look) <= e.Start {
		r.kept++
	}
	place := e.Start + len(e.Text)
	r.Scanned = len(is) - r.kept
	for i := r.kept; i < len(is) && !r.back; i++ {
		j, begins := slices.BinarySearch(was, e.End+is[i]-place)
		if is[i] >= place && begins && sameMark(old.Marks[j], x.Marks[i]) {
			r.Scanned, r.back = i-r.kept, true
			// From there on all is what it was.
			if !slices.Equal(old.Raws[j:], x.Raws[i:]) || !slices.EqualFunc(old.Marks[j:], x.Marks[i:], sameMark) {
				t.Fatalf("%.80q, %v: from %d on not what was from %d on", text, e, is[i], was[j])
			}
		}
	}
	r.Ahead, r.Behind = both(old.Tokens, x.Tokens)
	return r
}

// both are how many tokens stay at the beginning, and of the others at the end.
func both(old, x []api.Token) (ahead, behind int) {
	for ahead < len(old) && ahead < len(x) && old[ahead] == x[ahead] {
		ahead++
	}
	old, x = slices.Clone(old[ahead:]), slices.Clone(x[ahead:])
	slices.Reverse(old)
	slices.Reverse(x)
	for behind < len(old) && behind < len(x) && old[behind] == x[behind] {
		behind++
	}
	return ahead, behind
}

// holds that an edit of a scan is told by the words, and leads to a scan of the text behind it.
func holds(t *testing.T, by scanner, s *relex.Scan, e api.Edit) (*relex.Scan, told) {
	t.Helper()
	text := s.Text()
	want := byTheWords(t, by, text, e)
	n, r := change(t, s, e)
	if r.Ahead != want.Ahead || r.Behind != want.Behind || r.Scanned != want.Scanned {
		t.Fatalf("%.80q, %d to %d, %.40q: %d, %d, %d, not %d, %d, %d", text, e.Start, e.End, e.Text, r.Ahead, r.Behind, r.Scanned, want.Ahead, want.Behind, want.Scanned)
	}
	if !alike(r.Lexed, want.Lexed) || !alike(n.Lexed(), want.Lexed) || n.Text() != applied(t, text, e) || s.Text() != text {
		t.Fatalf("%.80q, %d to %d, %.40q: %.800v, %.800v, not %.800v", text, e.Start, e.End, e.Text, r.Lexed, n.Lexed(), want.Lexed)
	}
	return n, want
}

// tells holds just some numbers of an edit of a new scan by the language's rules, besides what the words say.
func tells(t *testing.T, text string, e api.Edit, ahead, behind, scanned int) {
	t.Helper()
	if _, r := holds(t, language, scan(t, language, text), e); r.Ahead != ahead || r.Behind != behind || r.Scanned != scanned {
		t.Errorf("%.80q, %d to %d, %.40q: by the words %d, %d, %d, not %d, %d, %d", text, e.Start, e.End, e.Text, r.Ahead, r.Behind, r.Scanned, ahead, behind, scanned)
	}
}

// flat is an automaton of as many states and classes, which leads nowhere.
func flat(states, classes int) api.Dfa {
	d := api.Dfa{Rule: times(states, -1)}
	for range states {
		d.Next = append(d.Next, times(classes, -1))
	}
	return d
}

// single is an automaton of one way: by one byte to where a rule ends.
func single(b byte, rule int) api.Dfa {
	d := flat(2, 2)
	d.Class[b], d.Next[0][1], d.Rule[1] = 1, 1, rule
	return d
}

// copied is an automaton in memory of its own.
func copied(d api.Dfa) api.Dfa {
	c := api.Dfa{Start: d.Start, Class: d.Class, Rule: slices.Clone(d.Rule)}
	for _, row := range d.Next {
		c.Next = append(c.Next, slices.Clone(row))
	}
	return c
}

// changed is an automaton with something else in it.
func changed(d api.Dfa, change func(d *api.Dfa)) api.Dfa {
	c := copied(d)
	change(&c)
	return c
}

// texts are all texts of at most n of some bytes, the short ones first.
func texts(n int, bytes string) []string {
	l := []string{""}
	for from := 0; n > 0; n-- {
		to := len(l)
		for ; from < to; from++ {
			for i := range len(bytes) {
				l = append(l, l[from]+bytes[i:i+1])
			}
		}
	}
	return l
}

// dice are numbers, the same ones in each run.
type dice uint32

func (d *dice) roll(n int) int {
	*d = *d*1664525 + 1013904223
	return int(*d>>8) % n
}

// text is a mixed one of some bytes.
func (d *dice) text(n int, bytes string) string {
	b := make([]byte, n)
	for i := range b {
		b[i] = bytes[d.roll(len(bytes))]
	}
	return string(b)
}

// line is a mixed text of the language.
func (d *dice) line(n int) string {
	parts := []string{
		"\n", "\n", "\r\n", "\n  ", "\n    ", "\n\t", "\n   ", " ", " ", "\t", "a", "if", "else", "x_1", "12", "'x y'", "(", ")", ":", "=", "+", "<",
		"# x", "#", "\\\n", "\\", "?", "'", "\r", "\xff",
	}
	s := ""
	for range n {
		s += parts[d.roll(len(parts))]
	}
	return s
}

// of is a mixed edit of a text, which puts what it is given.
func (d *dice) of(text, puts string) api.Edit {
	start := d.roll(len(text) + 1)
	return edit(start, start+d.roll(min(9, len(text)-start+1)), puts)
}

// plain is a mixed automaton of as many rules, in which more or less of all leads somewhere.
func (d *dice) plain(rules int) api.Dfa {
	states, classes := 1+d.roll(6), 1+d.roll(4)
	out := api.Dfa{Start: d.roll(states)}
	for b := range out.Class {
		out.Class[b] = uint8(d.roll(classes))
	}
	blind, bare := d.roll(4), d.roll(4)
	for range states {
		row := times(classes, -1-d.roll(2))
		for c := range row {
			if d.roll(4) >= blind {
				row[c] = d.roll(states)
			}
		}
		out.Next = append(out.Next, row)
		rule := []int{-1, -2, math.MinInt}[d.roll(3)]
		if d.roll(4) >= bare && rules > 0 {
			rule = d.roll(rules)
		}
		out.Rule = append(out.Rule, rule)
	}
	return out
}

// mixed is a mixed scanner, whose rules are often of the kinds by which lines are laid.
func (d *dice) mixed() scanner {
	often := []int{api.KSpace, api.KSpace, api.KNewline, api.KNewline, api.KName, api.KOpen, api.KClose, api.KComment, api.KJoin, api.KEnd, api.KBad, -1, 99, math.MaxInt}
	var l []int
	for range 5 {
		l = append(l, often[d.roll(len(often))])
	}
	return scanner{kinds(l...), d.plain(len(l))}
}
