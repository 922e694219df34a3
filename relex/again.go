package relex

import (
	"slices"

	"rootstock/api"
	"rootstock/indent"
)

// again is what the text behind an edit comes to, and how many of its pieces were scanned for that.
func (s *Scan) again(text string, e api.Edit) (api.Lexed, int) {
	kept, at := keptPieces(s.lexed.Raws, e.Start)
	x := beginning(s.lexed, kept)
	m := x.Marks[kept]
	behind := e.Start + len(e.Text)
	old := trail{raws: s.lexed.Raws, next: kept, at: at}
	for at < len(text) {
		if at >= behind && old.begins(e.End+at-behind) && sameMark(s.lexed.Marks[old.next], m) {
			return joined(x, s.lexed, old.next), len(x.Raws) - kept
		}
		r := s.by.piece(text[at:])
		next, told := indent.Step(m, text[at:at+r.Len], r)
		m, at = sharing(m, next), at+r.Len
		x.Raws = append(x.Raws, r)
		x.Marks = append(x.Marks, m)
		x.Tokens = append(x.Tokens, told...)
		x.Counts = append(x.Counts, len(x.Tokens))
	}
	x.Tokens = append(x.Tokens, indent.End(m)...)
	return x, len(x.Raws) - kept
}

// keptPieces is how many pieces at the beginning end, with all that was looked at for them, at a place or ahead of it; and where the next one begins.
func keptPieces(l []api.Raw, place int) (n, at int) {
	// At least a piece's own bytes were looked at for it.
	for n < len(l) && at+l[n].Look <= place {
		at += l[n].Len
		n++
	}
	return n, at
}

// trail is a way through pieces: the number of the next one, and where it begins.
type trail struct {
	raws     []api.Raw
	next, at int
}

// begins goes on to a place, ahead of the last piece's end, and tells whether a piece begins there.
func (p *trail) begins(place int) bool {
	for p.at < place {
		p.at += p.raws[p.next].Len
		p.next++
	}
	return p.at == place
}

// sameMark tells whether a scanner stands in the same way.
func sameMark(m, n api.Mark) bool {
	return m.Open == n.Open && m.Col == n.Col && m.Fresh == n.Fresh && m.Lead == n.Lead && slices.Equal(m.Cols, n.Cols)
}
