package grams

import "rootstock/api"

// set is a set of numbers below MaxSymbols: of symbols, or of terminals and the end.
type set uint64

// table is a set for each symbol.
type table [api.MaxSymbols]set

// way is one on which all goes that is in a symbol's set: it is in the other one's, too.
type way struct {
	from, to int
}

func one(n int) set {
	return 1 << n
}

func below(n int) set {
	return one(n) - 1
}

func of(l []int) set {
	var s set
	for _, n := range l {
		s |= one(n)
	}
	return s
}

func (s set) has(n int) bool {
	return s&one(n) != 0
}

// members are a set's numbers, rising.
func (s set) members() []int {
	var l []int
	for n := range api.MaxSymbols {
		if s.has(n) {
			l = append(l, n)
		}
	}
	return l
}

// led is a table with all to which its sets lead, by any number of ways.
func led(t table, ways []way) table {
	return settled(t, func(t table) table {
		for _, w := range ways {
			t[w.to] |= t[w.from]
		}
		return t
	})
}

// settled is what comes of one when it is gone over again and again, until that makes no difference.
func settled[T comparable](x T, over func(T) T) T {
	for {
		next := over(x)
		if next == x {
			return x
		}
		x = next
	}
}
