package relex

import (
	"slices"

	"rootstock/api"
)

// beginning is what the first pieces of a text come to, without the end. It has the old lists themselves, with no room behind what it has of them: what is put behind it comes to memory of its own.
func beginning(x api.Lexed, pieces int) api.Lexed {
	marks, tokens := pieces+1, x.Counts[pieces]
	return api.Lexed{
		Raws:   x.Raws[:pieces:pieces],
		Marks:  x.Marks[:marks:marks],
		Counts: x.Counts[:marks:marks],
		Tokens: x.Tokens[:tokens:tokens],
	}
}

// joined is what pieces come to with old ones behind them, from one on that has the same mark ahead.
func joined(x, old api.Lexed, from int) api.Lexed {
	told := old.Counts[from]
	more := len(x.Tokens) - told
	x.Raws = append(x.Raws, old.Raws[from:]...)
	x.Marks = append(x.Marks, old.Marks[from+1:]...)
	x.Tokens = append(x.Tokens, old.Tokens[told:]...)
	for _, n := range old.Counts[from+1:] {
		x.Counts = append(x.Counts, n+more)
	}
	return x
}

// sharing is a mark with the columns of the one ahead of it, if they are the same: blocks stay open over many pieces, and what is kept of them is not to grow with both.
func sharing(ahead, m api.Mark) api.Mark {
	if slices.Equal(ahead.Cols, m.Cols) {
		m.Cols = ahead.Cols
	}
	return m
}

// copied is what a text comes to, in memory of its own.
func copied(x api.Lexed) api.Lexed {
	return api.Lexed{
		Raws:   slices.Clone(x.Raws),
		Marks:  copiedMarks(x.Marks),
		Counts: slices.Clone(x.Counts),
		Tokens: slices.Clone(x.Tokens),
	}
}

// copiedMarks are marks of which each has columns of its own, laid one behind the other in one piece of memory.
func copiedMarks(l []api.Mark) []api.Mark {
	all := 0
	for _, m := range l {
		all += len(m.Cols)
	}
	told, room := make([]api.Mark, len(l)), make([]int, all)
	copy(told, l)
	for i, m := range l {
		n := copy(room, m.Cols)
		told[i].Cols, room = room[:n:n], room[n:]
	}
	return told
}

// alikeAhead is how many tokens at the beginning of two lists are the same.
func alikeAhead(x, y []api.Token) int {
	n := 0
	for n < min(len(x), len(y)) && x[n] == y[n] {
		n++
	}
	return n
}

// alikeBehind is how many tokens at the end of two lists are the same.
func alikeBehind(x, y []api.Token) int {
	n := 0
	for n < min(len(x), len(y)) && x[len(x)-1-n] == y[len(y)-1-n] {
		n++
	}
	return n
}
