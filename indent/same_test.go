package indent_test

import (
	"reflect"
	"slices"
	"testing"

	"rootstock/api"
	"rootstock/indent"
)

// filled is a list of columns with room behind it, in which nothing may be written.
func filled(cols []int) []int {
	return append(append(make([]int, 0, len(cols)+4), cols...), -7, -7, -7, -7)[:len(cols)]
}

func TestStepKeepsItsArguments(t *testing.T) {
	for _, kind := range kinds() {
		for _, m := range []api.Mark{fresh(1, 5, 2, 4), fresh(1, 3, 2, 4), fresh(0, 0, 2, 4, 9), within(2, 1, 2), within(2, 0, 2)} {
			given := changed(m, func(m *api.Mark) { m.Cols = filled(m.Cols) })
			r := api.Raw{Kind: kind, Len: 2, Look: 3}
			next, l := indent.Step(given, "\t ", r)
			kept, tokens := changed(next, func(*api.Mark) {}), slices.Clone(l)
			// What was answered is memory of its own: what is done to it touches nothing that was handed in.
			for i := range next.Cols[:cap(next.Cols)] {
				next.Cols[:cap(next.Cols)][i] = -9
			}
			for i := range l {
				l[i] = api.Token{Kind: -9}
			}
			if room := given.Cols[:cap(given.Cols)]; !reflect.DeepEqual(given, m) || slices.ContainsFunc(room[len(m.Cols):], func(c int) bool { return c != -7 }) || r != (api.Raw{Kind: kind, Len: 2, Look: 3}) {
				t.Errorf("%v became %v, %v", m, given, room)
			}
			again, more := indent.Step(given, "\t ", r)
			if !reflect.DeepEqual(again, kept) || !slices.Equal(more, tokens) {
				t.Errorf("%v by kind %d: %v, %v, and then %v, %v", m, kind, kept, tokens, again, more)
			}
		}
	}
}

func TestEndKeepsItsArgument(t *testing.T) {
	for _, m := range []api.Mark{fresh(1, 5, 2, 4), within(2, 1, 2), fresh(0, 0)} {
		given := changed(m, func(m *api.Mark) { m.Cols = filled(m.Cols) })
		l := indent.End(given)
		kept := slices.Clone(l)
		for i := range l {
			l[i].Kind = -9
		}
		if !slices.Equal(indent.End(given), kept) || !reflect.DeepEqual(given, m) || slices.Contains(given.Cols[:cap(given.Cols)][len(m.Cols):], -9) {
			t.Errorf("%v became %v: %v", m, given, kept)
		}
	}
}

func TestAllKeepsItsArguments(t *testing.T) {
	d := dice(8)
	for range 500 {
		text, l := d.pieces(d.roll(30))
		l = append(l, api.Raw{Kind: -7})[:len(l)]
		was := slices.Clone(l)
		want := allByTheWords(text, was)
		for range 2 {
			x := lexed(t, text, l)
			if !alike(x, want) || !slices.Equal(l, was) || l[:len(l)+1][len(l)].Kind != -7 {
				t.Fatalf("%q, %v became %v: %v, not %v", text, was, l, x, want)
			}
			spoil(x)
		}
	}
}

// spoil writes into all that was answered.
func spoil(x api.Lexed) {
	for i := range x.Raws {
		x.Raws[i] = api.Raw{Kind: -9}
	}
	for i := range x.Marks {
		for j := range x.Marks[i].Cols {
			x.Marks[i].Cols[j] = -9
		}
	}
	for i := range x.Counts {
		x.Counts[i] = -9
	}
	for i := range x.Tokens {
		x.Tokens[i] = api.Token{Kind: -9}
	}
}

func TestNoTwoListsShareMemory(t *testing.T) {
	d := dice(9)
	for range 200 {
		text, l := d.pieces(30)
		x := lexed(t, text, l)
		want := allByTheWords(text, l)
		for i := range x.Marks {
			// Each mark's columns, and what room there is behind them, are its own.
			room := x.Marks[i].Cols[:cap(x.Marks[i].Cols)]
			for j := range room {
				room[j] = -9
			}
			for j, m := range x.Marks[i+1:] {
				if !reflect.DeepEqual(m, want.Marks[i+1+j]) {
					t.Fatalf("%q, %v: mark %d has memory of mark %d", text, l, i+1+j, i)
				}
			}
		}
	}
}
