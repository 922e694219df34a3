package mini

import "rootstock/api"

// classed is an automaton of which two bytes are of one class just if they lead to the same from each state. Classes are numbered by the least byte of each.
func classed(d api.Dfa) api.Dfa {
	class, least := classes(d)
	out := api.Dfa{Start: d.Start, Class: class}
	for state, row := range d.Next {
		next := make([]int, len(least))
		for c, b := range least {
			next[c] = max(nowhere, row[d.Class[b]])
		}
		out.Next = append(out.Next, next)
		out.Rule = append(out.Rule, max(noRule, d.Rule[state]))
	}
	return out
}

// classes tells of each byte the class that it is of, and of each class its least byte.
func classes(d api.Dfa) (class [256]uint8, least []uint8) {
	for _, row := range d.Next {
		least = least[:0]
		number := map[[2]int]uint8{}
		for b, c := range class {
			key := [2]int{int(c), max(nowhere, row[d.Class[b]])}
			next, ok := number[key]
			if !ok {
				next = uint8(len(least))
				number[key] = next
				least = append(least, uint8(b))
			}
			class[b] = next
		}
	}
	return class, least
}
