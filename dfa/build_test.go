package dfa_test

import (
	"math"
	"reflect"
	"slices"
	"testing"

	"rootstock/api"
	"rootstock/dfa"
	"rootstock/nfa"
	"rootstock/sets"
)

// choosyKnown is the automaton with choice of the chapter's example.
func choosyKnown() api.Nfa {
	return from(0, only(1, 4), by("i", 2), by("f", 3), end(0), by("abcdefghijklmnopqrstuvwxyz", 5), end(1, 4))
}

// is holds that an automaton with choice becomes another one, number by number.
func is(t *testing.T, what any, n api.Nfa, want api.Dfa) {
	t.Helper()
	if d := built(t, n); !reflect.DeepEqual(d, want) {
		t.Errorf("%v: %v, not %v", what, d, want)
	}
}

func TestOf(t *testing.T) {
	is(t, "the example", choosyKnown(), known)
	one := api.Dfa{Next: [][]int{{-1}}, Rule: []int{-1}}
	is(t, "one state without ways and rule", from(0, dead), one)
	is(t, "one state with a rule", from(0, end(47)), api.Dfa{Next: [][]int{{-1}}, Rule: []int{47}})
	is(t, "a ring", from(0, api.Step{Set: all, To: 0, Rule: 3}), api.Dfa{Next: [][]int{{0}}, Rule: []int{3}})
	// The first set is 0, whatever the number of the state in which it begins; what is not come to makes no difference.
	is(t, "a start that is not 0", from(2, end(7), by("z", 1), by("a", 0), end(9)), api.Dfa{Class: classes("a"), Next: [][]int{{-1, 1}, {-1, -1}}, Rule: []int{-1, 7}})
	is(t, "back to the first set", from(1, by("b", 1), by("a", 0), dead, end(1)), one)
	is(t, "back to the first set, where a rule ends", from(1, by("b", 1), api.Step{Set: sets.Of("a"), Rule: 0}), api.Dfa{Class: classes("a", "b"), Next: [][]int{{-1, 1, -1}, {-1, -1, 0}}, Rule: []int{0, -1}})
	is(t, "all bytes but some", from(0, api.Step{Set: sets.Not(sets.Of("\x00")), To: 1, Rule: -1}, end(0)), api.Dfa{Class: classes(sets.Members(sets.Not(sets.Of("\x00")))), Next: [][]int{{-1, 1}, {-1, -1}}, Rule: []int{-1, 0}})
}

func TestSetsThatAreNotAlive(t *testing.T) {
	one := api.Dfa{Next: [][]int{{-1}}, Rule: []int{-1}}
	// The first set is a state, though it be not alive.
	is(t, "no rule", from(0, by("a", 1), by("b", 0), dead), one)
	is(t, "a rule that is not come to", from(0, by("a", 1), by("ab", 0, 1), end(5)), one)
	is(t, "a way to the rule by no byte", from(0, by("", 1), end(5)), one)
	is(t, "a way to the rule by a byte that is nowhere", from(0, by("a", 1), by("", 2, 0), end(5)), one)
	is(t, "a rule below 0", from(0, by("a", 1), end(math.MinInt)), one)
	// It leads nowhere where the set is not alive: by bytes that lead to unlike ones, too.
	only3 := api.Dfa{Class: classes("c"), Next: [][]int{{-1, 1}, {-1, -1}}, Rule: []int{-1, 0}}
	is(t, "dead ends of all kinds", from(0, only(1, 2, 3, 6), by("a", 4), by("b", 5), by("c", 7), dead, by("d", 5), by("e", -1), end(0)), only3)
	is(t, "a dead end of some bytes", from(0, only(1, 2), api.Step{Set: sets.Not(sets.Of("c")), To: 0, Free: []int{3}, Rule: -1}, by("c", 4), dead, end(0)), api.Dfa{Class: classes("c"), Next: [][]int{{0, 1}, {-1, -1}}, Rule: []int{-1, 0}})
	// Live ones behind dead ones in number, and dead ones behind live ones.
	is(t, "a row", from(4, dead, by("a", 0), end(6), by("b", 2, 1), by("ab", 3)), api.Dfa{Class: classes("a", "b"), Next: [][]int{{-1, 1, 1}, {-1, -1, 2}, {-1, -1, -1}}, Rule: []int{-1, -1, 6}})
	// A set is alive by one of its states; a way that is free is no way by a byte.
	is(t, "alive by a free way", from(0, by("a", 1), only(2), only(3), end(0)), api.Dfa{Class: classes("a"), Next: [][]int{{-1, 1}, {-1, -1}}, Rule: []int{-1, 0}})
}

func TestSetsAreTheirStates(t *testing.T) {
	// Sets that only dead states tell apart are two.
	is(t, "dead ones", from(0, by("ab", 1, 3), end(0), dead, by("b", 2)), api.Dfa{Class: classes("a", "b"), Next: [][]int{{-1, 1, 2}, {-1, -1, -1}, {-1, -1, -1}}, Rule: []int{-1, 0, 0}})
	// So are those that only states with free ways tell apart.
	is(t, "free ones", from(0, by("a", 1, 3), end(0), only(1), by("b", 2)), api.Dfa{Class: classes("a", "b"), Next: [][]int{{-1, 1, 2}, {-1, -1, -1}, {-1, -1, -1}}, Rule: []int{-1, 0, 0}})
	// So are those from which the same comes; what is one set is one state, by whichever ways it is come to.
	is(t, "two of a kind", from(0, by("a", 1, 4), by("c", 3), by("c", 3), end(2), by("b", 2)), api.Dfa{Class: classes("a", "b", "c"), Next: [][]int{{-1, 1, 2, -1}, {-1, -1, -1, 3}, {-1, -1, -1, 3}, {-1, -1, -1, -1}}, Rule: []int{-1, -1, -1, 2}})
	is(t, "one set by several ways", from(0, by("a", 1, 3, 4), end(2), only(1, 0), by("b", 1), by("a", 1, 4)), api.Dfa{Class: classes("ab"), Next: [][]int{{-1, 1}, {-1, -1}}, Rule: []int{-1, 2}})
	is(t, "two states with one rule", from(0, by("a", 1, 3), end(2), end(2), by("b", 2)), api.Dfa{Class: classes("a", "b"), Next: [][]int{{-1, 1, 2}, {-1, -1, -1}, {-1, -1, -1}}, Rule: []int{-1, 2, 2}})
}

func TestNumbersOfSets(t *testing.T) {
	// Byte by byte, rising, wherever the states stand in the automaton with choice, and whatever their rules.
	is(t, "bytes", from(0, only(1, 2, 3, 4), by("\xff", 5), by("b", 6), by("\x00", 7), by("\x80a", 8), end(1), end(2), end(3), end(4)), api.Dfa{
		Class: func() [256]uint8 {
			c := slices.Repeat([]uint8{1}, 256)
			c[0], c['a'], c[128], c['b'], c[255] = 0, 2, 2, 3, 4
			return [256]uint8(c)
		}(),
		Next: [][]int{{1, -1, 2, 3, 4}, {-1, -1, -1, -1, -1}, {-1, -1, -1, -1, -1}, {-1, -1, -1, -1, -1}, {-1, -1, -1, -1, -1}},
		Rule: []int{-1, 3, 4, 2, 1},
	})
	// State by state: those of the first one first, though another one's byte is below.
	is(t, "states", from(0, only(1, 2), by("y", 3), by("z", 4), by("a", 5), by("A", 6), end(1), end(2)), api.Dfa{Class: classes("A", "a", "y", "z"), Next: [][]int{{-1, -1, -1, 1, 2}, {-1, -1, 3, -1, -1}, {-1, 4, -1, -1, -1}, {-1, -1, -1, -1, -1}, {-1, -1, -1, -1, -1}}, Rule: []int{-1, -1, -1, 1, 2}})
	// What is not alive has no number, and takes none.
	is(t, "dead ones between", from(0, only(1, 2, 3, 4), by("a", 5), by("b", 6), by("c", 5), by("d", 7), dead, end(1), end(2)), api.Dfa{Class: classes("b", "d"), Next: [][]int{{-1, 1, 2}, {-1, -1, -1}, {-1, -1, -1}}, Rule: []int{-1, 1, 2}})
}

func TestClasses(t *testing.T) {
	// Bytes that ways tell apart, and that lead to the same from each set, are of one class.
	is(t, "one class", from(0, only(1, 2), by("a", 3), by("bc", 3), end(0)), api.Dfa{Class: classes("abc"), Next: [][]int{{-1, 1}, {-1, -1}}, Rule: []int{-1, 0}})
	// So are those that only a state tells apart that is not come to.
	is(t, "ways that are not gone", from(0, by("ab", 1), end(0), by("a", 1), by("b", 0)), api.Dfa{Class: classes("ab"), Next: [][]int{{-1, 1}, {-1, -1}}, Rule: []int{-1, 0}})
	// Those that lead to the same from the first set, and to something else from another one, are of two.
	is(t, "told apart later on", from(0, by("ab", 1), by("ab", 2, 3), end(0), by("b", 4), end(0)), api.Dfa{Class: classes("a", "b"), Next: [][]int{{-1, 1, 1}, {-1, 2, 3}, {-1, -1, -1}, {-1, -1, -1}}, Rule: []int{-1, -1, 0, 0}})
	// As many as may be: a byte leads to the states of its bits.
	bits := from(0, only(1, 2, 3, 4, 5, 6, 7, 8))
	want := api.Dfa{Class: each(), Next: append([][]int{nil}, times(255, times(256, -1))...), Rule: []int{-1}}
	for i := range 8 {
		var s api.Set
		for b := range 256 {
			if b>>i&1 == 1 {
				s = sets.Union(s, sets.Range(byte(b), byte(b)))
			}
		}
		bits.Steps = append(bits.Steps, api.Step{Set: s, To: 9 + i, Rule: -1})
	}
	for i := range 8 {
		bits.Steps = append(bits.Steps, end(i))
	}
	for b := range 256 {
		want.Next[0] = append(want.Next[0], b)
		if b > 0 {
			rule := 0
			for b>>rule&1 == 0 {
				rule++
			}
			want.Rule = append(want.Rule, rule)
		}
	}
	want.Next[0][0] = -1
	is(t, "all classes", bits, want)
}

func TestRulesOfSets(t *testing.T) {
	for i, x := range []struct {
		rules []int
		want  int
	}{
		{[]int{5}, 5}, {[]int{0}, 0}, {[]int{47}, 47}, {[]int{5, 3, 9}, 3}, {[]int{3, 5}, 3}, {[]int{5, 3}, 3}, {[]int{47, 0}, 0}, {[]int{0, 47}, 0}, {[]int{4, 4}, 4}, {[]int{-1, 4}, 4}, {[]int{4, -1}, 4}, {[]int{-9, 7, math.MinInt, 6}, 6}, {[]int{-1}, -1}, {[]int{-5, math.MinInt}, -1}, {nil, -1},
	} {
		// They end where the text of no bytes leads, and behind a byte.
		n := from(0, only(), by("a", 2), only())
		for _, r := range x.rules {
			n.Steps = append(n.Steps, end(r))
			n.Steps[0].Free = append(n.Steps[0].Free, len(n.Steps)-1)
			n.Steps[2].Free = append(n.Steps[2].Free, len(n.Steps)-1)
		}
		n.Steps[0].Free = append(n.Steps[0].Free, 1)
		d := built(t, n)
		if d.Rule[0] != x.want || rule(t, d, "") != x.want || rule(t, d, "a") != x.want || rule(t, d, "b") != -1 {
			t.Errorf("%d: %v, not %d", i, d, x.want)
		}
	}
}

func TestOfByTheWords(t *testing.T) {
	d := dice(3)
	states, quiet := map[int]int{}, 0
	for range 3000 {
		n := d.choosy()
		w := wordsOf(n)
		want := w.automaton()
		is(t, n, n, want)
		states[min(5, len(want.Next))]++
		if !w.alive(w.first()) {
			quiet++
		}
	}
	if states[1] < 300 || states[2] < 100 || states[3] < 100 || states[4] < 50 || states[5] < 300 || quiet < 300 {
		t.Errorf("%v, %d", states, quiet)
	}
	for _, patterns := range [][]string{{"if", "[a-z]+"}, {"(a|b)*abb"}, {"a*", "(ab)+", "[^a]"}, {"", "a?b?c?", "()"}, {"#.*", "\\\\\r?\n", "[0-9]+", "'[^\n']*'"}, {"([]|a)b", "[^]"}} {
		n := ruled(t, patterns...)
		is(t, patterns, n, wordsOf(n).automaton())
	}
}

// tooLong holds that there are too many sets.
func tooLong(t *testing.T, what any, n api.Nfa) {
	t.Helper()
	if d, e := dfa.Of(n); e != api.ErrLong || !reflect.DeepEqual(d, api.Dfa{}) {
		t.Errorf("%v: %v, %d states", what, e, len(d.Next))
	}
}

// chain are states one behind the other, as many ways by some bytes, and the end of a rule.
func chain(ways int, bytes string, rule int) api.Nfa {
	var n api.Nfa
	for i := range ways {
		n.Steps = append(n.Steps, by(bytes, i+1))
	}
	n.Steps = append(n.Steps, end(rule))
	return n
}

// burst is an automaton of as many sets as there are texts of a and b of so many bytes: it knows of each of the last ones whether it was an a.
func burst(bytes, rule int) api.Nfa {
	n := from(0, by("ab", 0, 1), by("a", 2))
	for i := range bytes - 1 {
		n.Steps = append(n.Steps, by("ab", 3+i))
	}
	n.Steps = append(n.Steps, end(rule))
	return n
}

// behind is an automaton beside another one, in which it begins too.
func behind(n, m api.Nfa) api.Nfa {
	out, more := copied(n), len(n.Steps)
	for _, s := range copied(m).Steps {
		if s.To >= 0 {
			s.To += more
		}
		for i := range s.Free {
			s.Free[i] += more
		}
		out.Steps = append(out.Steps, s)
	}
	out.Steps[out.Start].Free = append(out.Steps[out.Start].Free, m.Start+more)
	return out
}

func TestTooManySets(t *testing.T) {
	for _, ways := range []int{2046, 2047} {
		for _, bytes := range []string{"a", "a\xff"} {
			d := built(t, chain(ways, bytes, 47))
			if len(d.Next) != ways+1 || d.Rule[ways] != 47 || d.Next[ways-1][1] != ways || d.Next[ways][1] != -1 {
				t.Errorf("%d ways: %d states", ways, len(d.Next))
			}
		}
	}
	for _, ways := range []int{2048, 2049, 4095} {
		tooLong(t, ways, chain(ways, "a", 0))
	}
	if d := built(t, burst(11, 0)); len(d.Next) != 2048 {
		t.Errorf("%d states", len(d.Next))
	}
	tooLong(t, 12, burst(12, 0))
	tooLong(t, 4000, burst(4000, 0))
	// One set more, come to from the first set, and from the last one.
	tooLong(t, "from the first one", behind(chain(2047, "a", 0), from(0, by("b", 1), end(0))))
	last := chain(2047, "a", 0)
	last.Steps[2047].Set, last.Steps[2047].To = sets.Of("b"), 2048
	last.Steps = append(last.Steps, end(1))
	tooLong(t, "from the last one", last)
	last.Steps[2048].Rule = -1
	if d := built(t, last); len(d.Next) != 2048 {
		t.Errorf("%d states", len(d.Next))
	}
	// What leads back to a set is none more.
	last.Steps[2047].To = 1024
	if d := built(t, last); len(d.Next) != 2048 || d.Next[2047][2] != 1024 {
		t.Errorf("%d states", len(d.Next))
	}
}

func TestManySetsThatAreNotAlive(t *testing.T) {
	one := api.Dfa{Next: [][]int{{-1}}, Rule: []int{-1}}
	for _, ways := range []int{2047, 2048, 4095} {
		is(t, ways, chain(ways, "a", -1), one)
	}
	for _, bytes := range []int{11, 12, 40, 4000} {
		is(t, bytes, burst(bytes, -1), one)
		// Those that are alive are as many as they are, however many there are beside them.
		entered := behind(from(0, by("x", 1), end(7)), from(0, append([]api.Step{by("y", 1)}, moved(burst(bytes, -1).Steps, 1)...)...))
		is(t, bytes, entered, api.Dfa{Class: classes("x"), Next: [][]int{{-1, 1}, {-1, -1}}, Rule: []int{-1, 7}})
	}
	// 2048 that are alive, from the last of which as many more are come to that are not.
	n := chain(2047, "a", 3)
	n.Steps[2047].Set, n.Steps[2047].To = sets.Of("ab"), 2048
	n.Steps = append(n.Steps, moved(burst(12, -1).Steps, 2048)...)
	if d := built(t, n); len(d.Next) != 2048 || !slices.Equal(d.Next[2047], []int{-1, -1}) {
		t.Errorf("%d states", len(d.Next))
	}
	// Sets that dead states alone tell apart are as many as they are, if they are alive.
	tooLong(t, "dead ones", behind(from(0, api.Step{Set: all, To: 0, Rule: 0}), burst(12, -1)))
	if d := built(t, behind(from(0, api.Step{Set: all, To: 0, Rule: 0}), burst(11, -1))); len(d.Next) != 2048 {
		t.Errorf("%d states", len(d.Next))
	}
}

// moved are states whose numbers are so much greater.
func moved(l []api.Step, by int) []api.Step {
	l = copied(api.Nfa{Steps: l}).Steps
	for i := range l {
		if l[i].To >= 0 {
			l[i].To += by
		}
		for j := range l[i].Free {
			l[i].Free[j] += by
		}
	}
	return l
}

func TestTheGreatestOnes(t *testing.T) {
	// All states that may be, with all free ways that may be, in each set.
	n := from(4095, times(4096, api.Step{Set: all, To: 4095, Rule: -1})...)
	for i := range n.Steps {
		n.Steps[i].Free = []int{i * 7 % 4096, i * 31 % 4096, (i + 1) % 4096, 4095 - i}
	}
	n.Steps[17].Rule = 17
	is(t, "one set", n, api.Dfa{Next: [][]int{{0}}, Rule: []int{17}})
	// From each state of a chain each byte leads to a set of its own, by ways of which the first set has eight a byte.
	wide := api.Nfa{}
	for i := range 2048 {
		wide.Steps = append(wide.Steps, api.Step{Set: all, To: i + 1, Rule: -1})
	}
	wide.Steps[2047] = end(3)
	for i := range 2048 {
		wide.Steps = append(wide.Steps, api.Step{Set: sets.Range(byte(i), byte(i)), To: 2048 + i, Rule: -1})
		wide.Steps[0].Free = append(wide.Steps[0].Free, 2048+i)
	}
	tooLong(t, "wide", wide)
	// Without those ways the sets that they told apart are one.
	for i := range 2048 {
		wide.Steps[2048+i].To = -1
	}
	d := built(t, wide)
	if len(d.Next) != 2048 || !slices.Equal(d.Next[0], []int{1}) || !slices.Equal(d.Next[2047], []int{-1}) || d.Rule[2047] != 3 {
		t.Errorf("%d states, %v", len(d.Next), d.Next[0])
	}
}

func TestOfWhatMayNotBe(t *testing.T) {
	for i, n := range []api.Nfa{
		{}, {Start: -1}, from(-1, dead), from(1, dead), from(0, by("a", 1)), from(0, by("", 1)), from(0, only(1)), from(0, only(-1)), from(0, end(48)), from(0, dead, end(48)), from(0, dead, only(2)), from(0, end(0), by("a", 2)), from(math.MaxInt, dead), from(0, end(math.MaxInt)),
		from(0, times(4097, dead)...), from(-1, times(4097, dead)...), from(0, api.Step{To: -1, Free: make([]int, 16385), Rule: -1}), from(0, append(times(4096, only(0, 0, 0, 0)), end(48))...), from(0, append(chain(2048, "a", 0).Steps, end(48))...), from(0, append(burst(12, 0).Steps, only(-1))...),
	} {
		want := nfa.Check(n)
		if want == api.OK {
			t.Errorf("%d may be", i)
		}
		if d, e := dfa.Of(n); e != want || !reflect.DeepEqual(d, api.Dfa{}) {
			t.Errorf("%d: %v, not %v; %d states", i, e, want, len(d.Next))
		}
	}
	// The greatest ones that nfa.Check takes.
	is(t, "4096 states", from(4095, times(4096, end(47))...), api.Dfa{Next: [][]int{{-1}}, Rule: []int{47}})
	is(t, "16384 free ways", from(0, only(make([]int, 16384)...)), api.Dfa{Next: [][]int{{-1}}, Rule: []int{-1}})
}

func TestChoosyOnesStayWhatTheyWere(t *testing.T) {
	d := dice(4)
	for range 300 {
		n := d.choosy()
		was := copied(n)
		p := built(t, n)
		if !reflect.DeepEqual(n, was) {
			t.Errorf("%v became %v", was, n)
		}
		// What is told is memory of its own.
		first := copiedPlain(p)
		for i := range n.Steps {
			for j := range n.Steps[i].Free {
				n.Steps[i].Free[j] = -9
			}
			n.Steps[i] = api.Step{To: -9}
		}
		if !reflect.DeepEqual(p, first) {
			t.Errorf("%v became %v", first, p)
		}
		for i := range p.Next {
			p.Next[i] = append(p.Next[i][:0], times(len(p.Next[i])+1, -9)...)
			p.Rule[i] = -9
		}
		is(t, was, was, first)
	}
}

func TestListsOfAnAutomatonShareNothing(t *testing.T) {
	d := dice(5)
	for range 300 {
		p := built(t, d.choosy())
		was := copiedPlain(p)
		for i, row := range p.Next {
			more := append(row, -9)
			for j := range row {
				row[j], more[j] = -9, -9
			}
			p.Next[i] = was.Next[i]
			if !reflect.DeepEqual(p, was) {
				t.Fatalf("row %d: %v became %v", i, was, p)
			}
		}
	}
}
