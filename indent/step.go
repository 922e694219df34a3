package indent

import (
	"slices"

	"rootstock/api"
)

// step goes from a mark that may be by a piece by which a step is made.
func step(m api.Mark, text string, r api.Raw) (api.Mark, []api.Token) {
	m.Cols = slices.Clone(m.Cols)
	switch r.Kind {
	case api.KNewline:
		if m.Open == 0 && !m.Fresh {
			return endLine(m, r)
		}
		if m.Open == 0 {
			m.Col = 0
		}
		// What a line's end has of bytes itself leads to no column.
		text = ""
		fallthrough
	case api.KSpace:
		if beginsLine(m) {
			m.Col = column(m.Col, text)
		}
		fallthrough
	case api.KComment, api.KJoin:
		m.Lead += r.Len
		return m, nil
	}
	return takeToken(m, r)
}

// beginsLine tells whether the next token is the first one of a line that may open or end blocks.
func beginsLine(m api.Mark) bool {
	return m.Fresh && m.Open == 0
}

// column is where bytes lead from a column on.
func column(col int, text string) int {
	for i := range len(text) {
		if text[i] == '\t' {
			col += api.MaxTab - col%api.MaxTab
		} else {
			col++
		}
	}
	return min(col, api.MaxColumn)
}

// endLine tells a line's end as a token.
func endLine(m api.Mark, r api.Raw) (api.Mark, []api.Token) {
	told := []api.Token{{Kind: api.KNewline, Lead: m.Lead, Width: r.Len}}
	m.Lead, m.Col, m.Fresh = 0, 0, true
	return m, told
}

// takeToken tells a piece as a token, behind those of the blocks that its line opens and ends.
func takeToken(m api.Mark, r api.Raw) (api.Mark, []api.Token) {
	var told []api.Token
	if beginsLine(m) {
		m.Cols, told = blocks(m.Cols, m.Col)
	}
	told = append(told, api.Token{Kind: r.Kind, Width: r.Len})
	told[0].Lead = m.Lead
	m.Lead, m.Col, m.Fresh = 0, 0, false
	switch r.Kind {
	case api.KOpen:
		m.Open = min(m.Open+1, api.MaxText)
	case api.KClose:
		m.Open = max(m.Open-1, 0)
	}
	return m, told
}

// blocks are the columns of the blocks that are open behind a line's beginning at a column, and the tokens that are told of them.
func blocks(cols []int, col int) ([]int, []api.Token) {
	last := len(cols) - 1
	if col > cols[last] {
		return append(cols, col), []api.Token{{Kind: api.KIndent}}
	}
	var told []api.Token
	for ; cols[last] > col; last-- {
		told = append(told, api.Token{Kind: api.KDedent})
	}
	if cols[last] < col {
		told = append(told, api.Token{Kind: api.KBad})
	}
	return cols[:last+1], told
}
