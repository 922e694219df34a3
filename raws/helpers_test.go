package raws_test

import (
	"math"
	"regexp"
	"slices"
	"testing"

	"rootstock/api"
	"rootstock/dfa"
	"rootstock/raws"
)

// table are the language's rules as the chapter has them.
var table = []struct {
	kind    int
	pattern string
}{
	{api.KSpace, `[\t ]+`}, {api.KComment, `#.*`}, {api.KJoin, `\\\r?\n`}, {api.KNewline, `\r?\n`},
	{api.KPass, `pass`}, {api.KIf, `if`}, {api.KElse, `else`}, {api.KWhile, `while`}, {api.KDef, `def`}, {api.KReturn, `return`},
	{api.KName, `[A-Z_a-z][0-9A-Z_a-z]*`}, {api.KNumber, `[0-9]+`}, {api.KText, `'[^\n']*'`},
	{api.KOpen, `\(`}, {api.KClose, `\)`}, {api.KComma, `,`}, {api.KColon, `:`}, {api.KIs, `=`},
	{api.KPlus, `\+`}, {api.KMinus, `-`}, {api.KStar, `\*`}, {api.KLess, `<`}, {api.KMore, `>`},
}

// The language's own rules and automaton, as they are handed out.
var (
	language = raws.Rules()
	own      = raws.Dfa()
)

// times is as many of one thing.
func times[T any](n int, x T) []T { return slices.Repeat([]T{x}, n) }

// kinds are rules of some kinds; their patterns are none that the automata of these tests are made of.
func kinds(l ...int) []api.Rule {
	var rules []api.Rule
	for _, k := range l {
		rules = append(rules, api.Rule{Kind: k})
	}
	return rules
}

// told are the pieces that Of tells, which must be no error.
func told(t *testing.T, rules []api.Rule, d api.Dfa, text string) []api.Raw {
	t.Helper()
	l, e := raws.Of(rules, d, text)
	if e != api.OK {
		t.Fatalf("%v, %.20q: %v", d, text, e)
	}
	return l
}

// tells holds that a text has just some pieces.
func tells(t *testing.T, what any, rules []api.Rule, d api.Dfa, text string, want ...api.Raw) {
	t.Helper()
	if l := told(t, rules, d, text); !slices.Equal(l, want) {
		t.Errorf("%v, %.40q: %.200v, not %.200v", what, text, l, want)
	}
}

// reads holds that a text has just some pieces by the language's rules.
func reads(t *testing.T, text string, want ...api.Raw) {
	t.Helper()
	tells(t, "the language", language, own, text, want...)
}

// refused holds that a text is told with an error, and nothing else.
func refused(t *testing.T, what any, rules []api.Rule, d api.Dfa, text string, want api.Errno) {
	t.Helper()
	if l, e := raws.Of(rules, d, text); e != want || l != nil {
		t.Errorf("%v, %d rules, %.20q: %d pieces, %v, not %v", what, len(rules), text, len(l), e, want)
	}
}

// byTheWords are a text's pieces as the words say: each beginning of what is left is led anew, from the automaton's Start on.
func byTheWords(t *testing.T, rules []api.Rule, d api.Dfa, text string) []api.Raw {
	t.Helper()
	var l []api.Raw
	for len(text) > 0 {
		p := api.Raw{Kind: api.KBad, Len: 1, Look: 1}
		for n := 1; n <= len(text); n++ {
			rule, e := dfa.Rule(d, text[:n])
			if e != api.OK {
				t.Fatalf("%v, %.20q: %v", d, text, e)
			}
			if rule >= 0 {
				p.Kind, p.Len = rules[rule].Kind, n
			}
		}
		for p.Look <= len(text) && goesOn(t, d, text[:p.Look]) {
			p.Look++
		}
		l = append(l, p)
		text = text[p.Len:]
	}
	return l
}

// goesOn tells whether a beginning leads to a state from which an automaton goes on.
func goesOn(t *testing.T, d api.Dfa, beginning string) bool {
	t.Helper()
	s, e := dfa.Run(d, d.Start, beginning)
	if e != api.OK {
		t.Fatalf("%v, %.20q: %v", d, beginning, e)
	}
	return s >= 0 && slices.ContainsFunc(d.Next[s], func(to int) bool { return to >= 0 })
}

// reader finds pieces by the library's regexps: what each rule of the language matches, and the beginnings of which longer ones are matched, too.
type reader struct {
	rules  []*regexp.Regexp
	longer *regexp.Regexp
}

func newReader() reader {
	r := reader{longer: regexp.MustCompile(`^(?:[\t ]+|#[^\n]*|\\\r?|\r|[A-Z_a-z][0-9A-Z_a-z]*|[0-9]+|'[^\n']*)$`)}
	for _, x := range table {
		e := regexp.MustCompile(`^(?:` + x.pattern + `)`)
		e.Longest()
		r.rules = append(r.rules, e)
	}
	return r
}

func (r reader) pieces(text string) []api.Raw {
	var l []api.Raw
	for len(text) > 0 {
		p := api.Raw{Kind: api.KBad, Len: 1, Look: 1}
		longest := 0
		for i, e := range r.rules {
			if n := len(e.FindString(text)); n > longest {
				longest = n
				p.Kind, p.Len = table[i].kind, n
			}
		}
		for p.Look <= len(text) && r.longer.MatchString(text[:p.Look]) {
			p.Look++
		}
		l = append(l, p)
		text = text[p.Len:]
	}
	return l
}

// flat is an automaton of as many states and classes, which leads nowhere.
func flat(states, classes int) api.Dfa {
	d := api.Dfa{Rule: times(states, -1)}
	for range states {
		d.Next = append(d.Next, times(classes, -1))
	}
	return d
}

// single is an automaton of one way: by one byte to where a rule ends.
func single(b byte, rule int) api.Dfa {
	d := flat(2, 2)
	d.Class[b], d.Next[0][1], d.Rule[1] = 1, 1, rule
	return d
}

// copied is an automaton in memory of its own.
func copied(d api.Dfa) api.Dfa {
	c := api.Dfa{Start: d.Start, Class: d.Class, Rule: slices.Clone(d.Rule)}
	for _, row := range d.Next {
		c.Next = append(c.Next, slices.Clone(row))
	}
	return c
}

// changed is an automaton with something else in it.
func changed(d api.Dfa, change func(d *api.Dfa)) api.Dfa {
	c := copied(d)
	change(&c)
	return c
}

// texts are all texts of at most n of some bytes, the short ones first.
func texts(n int, bytes string) []string {
	l := []string{""}
	for from := 0; n > 0; n-- {
		to := len(l)
		for ; from < to; from++ {
			for i := range len(bytes) {
				l = append(l, l[from]+bytes[i:i+1])
			}
		}
	}
	return l
}

// dice are numbers, the same ones in each run.
type dice uint32

func (d *dice) roll(n int) int {
	*d = *d*1664525 + 1013904223
	return int(*d>>8) % n
}

// text is a mixed one of some bytes.
func (d *dice) text(n int, bytes string) string {
	b := make([]byte, n)
	for i := range b {
		b[i] = bytes[d.roll(len(bytes))]
	}
	return string(b)
}

// line is a mixed text of what the language is made of, and of what it has no rule for.
func (d *dice) line(n int) string {
	parts := []string{
		"pass", "if", "else", "while", "def", "return", "a", "B_", "_0", "0", "12", "'", "''", "'x y'", "#", "# ", "\\", "\\\n", "\\\r\n", "\r", "\n", "\r\n", " ", "\t ",
		"(", ")", ",", ":", "=", "+", "-", "*", "<", ">", "?", "\x00", "\xc3\xa4", "\xff", "!", "\"",
	}
	s := ""
	for range n {
		s += parts[d.roll(len(parts))]
	}
	return s
}

// plain is a mixed automaton of as many rules, in which more or less of all leads somewhere.
func (d *dice) plain(rules int) api.Dfa {
	states, classes := 1+d.roll(6), 1+d.roll(4)
	out := api.Dfa{Start: d.roll(states)}
	for b := range out.Class {
		out.Class[b] = uint8(d.roll(classes))
	}
	blind, bare := d.roll(4), d.roll(4)
	for range states {
		row := times(classes, -1-d.roll(2))
		for c := range row {
			if d.roll(4) >= blind {
				row[c] = d.roll(states)
			}
		}
		out.Next = append(out.Next, row)
		rule := []int{-1, -2, math.MinInt}[d.roll(3)]
		if d.roll(4) >= bare && rules > 0 {
			rule = d.roll(rules)
		}
		out.Rule = append(out.Rule, rule)
	}
	return out
}
