package rope

import "rootstock/api"

// onward is where a place of a text is, if that text begins at a start.
func onward(start, p api.Place) api.Place {
	if p.Line == 0 {
		return api.Place{Line: start.Line, Col: start.Col + p.Col}
	}
	return api.Place{Line: start.Line + p.Line, Col: p.Col}
}

// since is where a place that is not earlier than a start is in a text that begins at that start.
func since(start, p api.Place) api.Place {
	if p.Line == start.Line {
		return api.Place{Col: p.Col - start.Col}
	}
	return api.Place{Line: p.Line - start.Line, Col: p.Col}
}

// earlier tells whether a place comes ahead of another one.
func earlier(p, q api.Place) bool {
	if p.Line != q.Line {
		return p.Line < q.Line
	}
	return p.Col < q.Col
}
