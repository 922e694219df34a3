package dfa_test

import (
	"slices"
	"testing"

	"rootstock/api"
	"rootstock/nfa"
)

// least is the least rule by which an automaton with choice accepts a text, or -1.
func least(t *testing.T, n api.Nfa, text string) int {
	t.Helper()
	l, e := nfa.Accepts(n, text)
	if e != api.OK {
		t.Fatalf("%v, %.20q: %v", n, text, e)
	}
	if len(l) == 0 {
		return -1
	}
	return slices.Min(l)
}

// tells holds that the automaton of one with choice tells of texts the least rule by which that accepts them.
func tells(t *testing.T, n api.Nfa, texts ...string) {
	t.Helper()
	d := built(t, n)
	for _, text := range texts {
		if r, want := rule(t, d, text), least(t, n, text); r != want {
			t.Errorf("%v, %.40q: %d, not %d", n, text, r, want)
		}
	}
}

func TestLeastRules(t *testing.T) {
	d := dice(6)
	short := texts(4, "ab")
	told := map[int]int{}
	for range 1000 {
		n := d.choosy()
		tells(t, n, append(short, d.text(12, "abc"), "\x00", "a\xff", "\x00\xffa", "c", "ac", "\x80b")...)
		for _, text := range short {
			told[min(2, least(t, n, text))]++
		}
	}
	if told[-1] < 1000 || told[0] < 500 || told[1] < 500 || told[2] < 500 {
		t.Errorf("%v", told)
	}
	for _, n := range []api.Nfa{ruled(t, "if", "[a-z]+", "[0-9]*"), ruled(t, "[a-z]+", "if", ""), ruled(t, "a+b", "(a|b)*a", "(ab)*", "b.*"), ruled(t)} {
		tells(t, n, append(texts(5, "abif"), "7", "77", "if7", "a\nb", "b\n", "ba\xff")...)
	}
	for range 20 {
		tells(t, burst(10, 5), d.text(9+d.roll(40), "ab"))
	}
	tells(t, burst(11, 5), d.text(api.MaxText+1, "ab"), d.text(3000, "ab")+"c")
}

// reached are the states to which some text leads from some, these too; each class has bytes of its own.
func reached(t *testing.T, d api.Dfa, from int) []int {
	t.Helper()
	bytes := map[uint8]byte{}
	for b, c := range d.Class {
		bytes[c] = byte(b)
	}
	if len(bytes) != len(d.Next[0]) {
		t.Fatalf("%v: %d classes of bytes", d, len(bytes))
	}
	l := []int{from}
	for i := 0; i < len(l); i++ {
		for _, b := range bytes {
			if to := ran(t, d, l[i], string([]byte{b})); to >= 0 && !slices.Contains(l, to) {
				l = append(l, to)
			}
		}
	}
	return l
}

func TestStatesThatSomeTextLeadsTo(t *testing.T) {
	d := dice(7)
	for range 1000 {
		n := d.choosy()
		p := built(t, n)
		if p.Start != 0 {
			t.Errorf("%v: begins in %d", n, p.Start)
		}
		if l := reached(t, p, 0); len(l) != len(p.Next) {
			t.Errorf("%v: %v of %d", n, l, len(p.Next))
		}
		for state := 1; state < len(p.Next); state++ {
			if !slices.ContainsFunc(reached(t, p, state), func(to int) bool { return p.Rule[to] >= 0 }) {
				t.Errorf("%v: no rule ends behind %d", n, state)
			}
		}
	}
}

func TestTextsOneBehindTheOther(t *testing.T) {
	d := dice(8)
	led := map[bool]int{}
	for i := range 1500 {
		p := d.plain()
		if i%2 == 0 {
			p = built(t, d.choosy())
		}
		for range 5 {
			at := d.roll(len(p.Next))
			first, other := d.text(d.roll(5), "abc\x00"), d.text(d.roll(5), "abc\x00")
			want := ran(t, p, at, first)
			led[want >= 0]++
			if want >= 0 {
				want = ran(t, p, want, other)
			}
			if s := ran(t, p, at, first+other); s != want {
				t.Errorf("%v, from %d, %q, %q: %d, not %d", p, at, first, other, s, want)
			}
			if at == p.Start {
				ends := -1
				if want >= 0 {
					ends = max(-1, p.Rule[want])
				}
				if r := rule(t, p, first+other); r != ends {
					t.Errorf("%v, %q: %d, not %d", p, first+other, r, ends)
				}
			}
		}
	}
	if led[true] < 1000 || led[false] < 1000 {
		t.Errorf("%v", led)
	}
}

func TestNumbersOfStatesMakeNoDifference(t *testing.T) {
	d := dice(9)
	for range 1000 {
		n := d.choosy()
		var number []int
		for i := range n.Steps {
			number = slices.Insert(number, d.roll(i+1), i)
		}
		m := api.Nfa{Start: number[n.Start], Steps: make([]api.Step, len(n.Steps))}
		for i, s := range copied(n).Steps {
			if s.To >= 0 {
				s.To = number[s.To]
			}
			for j, to := range s.Free {
				s.Free[j] = number[to]
			}
			slices.Reverse(s.Free)
			m.Steps[number[i]] = s
		}
		is(t, number, m, built(t, n))
	}
}
