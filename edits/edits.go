// Package edits is layer 1: what an edit makes of a text, where an offset is behind it, and how it is taken back.
package edits

import (
	"strings"

	"rootstock/api"
)

// Check tells whether an edit fits a text of n bytes.
func Check(n int, e api.Edit) api.Errno {
	if n < 0 || n > api.MaxText {
		return api.ErrArg
	}
	if !within(e.Start, e.End, n) {
		return api.ErrSpan
	}
	// Text is held against the room that is left: a sum of lengths could be more than an int holds.
	stays := n - (e.End - e.Start)
	if len(e.Text) > api.MaxText-stays {
		return api.ErrLong
	}
	return api.OK
}

// Apply is the text behind an edit.
func Apply(text string, e api.Edit) (string, api.Errno) {
	if f := Check(len(text), e); f != api.OK {
		return "", f
	}
	// A plus of strings would hand out the argument itself where all else is empty.
	var b strings.Builder
	b.Grow(len(text) - (e.End - e.Start) + len(e.Text))
	b.WriteString(text[:e.Start])
	b.WriteString(e.Text)
	b.WriteString(text[e.End:])
	return b.String(), api.OK
}

// Fold is the text behind edits that come one behind the other, and for each of them its error.
func Fold(text string, l []api.Edit) (string, []api.Errno) {
	// A copy, as no edit may be done at all, and an answer shares nothing with an argument.
	text = strings.Clone(text)
	told := make([]api.Errno, len(l))
	for i, e := range l {
		next, f := Apply(text, e)
		told[i] = f
		if f == api.OK {
			text = next
		}
	}
	return text, told
}

// At is where an offset is behind an edit.
func At(e api.Edit, at int) int {
	if !upright(e) || !offset(at) {
		return 0
	}
	if at <= e.Start {
		return at
	}
	if at >= e.End {
		return at - (e.End - e.Start) + len(e.Text)
	}
	return e.Start + min(at-e.Start, len(e.Text))
}

// Image is where a span is behind an edit.
func Image(e api.Edit, s api.Span) api.Span {
	if !upright(e) || !within(s.From, s.To, api.MaxText) {
		return api.Span{}
	}
	return api.Span{From: At(e, s.From), To: At(e, s.To)}
}

// Undo is the edit that takes an edit of a text back.
func Undo(text string, e api.Edit) (api.Edit, api.Errno) {
	if f := Check(len(text), e); f != api.OK {
		return api.Edit{}, f
	}
	// A copy, or the few bytes that went would keep the whole text in memory.
	gone := strings.Clone(text[e.Start:e.End])
	return api.Edit{Start: e.Start, End: e.Start + len(e.Text), Text: gone}, api.OK
}

// upright tells whether an edit could fit some text.
func upright(e api.Edit) bool {
	return within(e.Start, e.End, api.MaxText) && len(e.Text) <= api.MaxText
}

// offset tells whether a number is an offset of some text.
func offset(at int) bool {
	return 0 <= at && at <= api.MaxText
}

// within tells whether from, to and most rise, from 0 on.
func within(from, to, most int) bool {
	return 0 <= from && from <= to && to <= most
}
