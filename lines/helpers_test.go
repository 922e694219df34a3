package lines_test

import (
	"math"
	"strings"

	"rootstock/api"
)

func place(line, col int) api.Place {
	return api.Place{Line: line, Col: col}
}

// small are all texts of 0 to 6 bytes that are an a, a byte 10, or a byte that is no rune.
func small() []string {
	l := []string{""}
	for from, n := 0, 0; n < 6; n++ {
		to := len(l)
		for ; from < to; from++ {
			for _, b := range []string{"a", "\n", "\xff"} {
				l = append(l, l[from]+b)
			}
		}
	}
	return l
}

// odd are texts with bytes that other programs take for a line's end, and longer ones.
func odd() []string {
	return []string{
		"\r", "\r\n", "\n\r", "a\rb\r\nc", "\v\f\x00\n\x85", "\u2028\n\u2029\u0085", "\u00e9\n\u65e5\u672c",
		strings.Repeat("\n", 70), strings.Repeat("a", 70), strings.Repeat("ab\n", 30), strings.Repeat("\nab", 30),
	}
}

// walked are the places of all offsets of a text, byte by byte.
func walked(text string) []api.Place {
	p := api.Place{}
	l := []api.Place{p}
	for i := 0; i < len(text); i++ {
		p.Col++
		if text[i] == 10 {
			p = api.Place{Line: p.Line + 1}
		}
		l = append(l, p)
	}
	return l
}

// far are numbers that no text's line, column or offset can be.
func far() []int {
	return []int{
		-1, -2, -1 << 31, -1 << 32, -1<<53 - 1, math.MinInt, math.MinInt + 1,
		1 << 31, 1 << 32, 1<<32 + 1, 1 << 53, 1<<53 + 1, math.MaxInt - 1, math.MaxInt,
	}
}
