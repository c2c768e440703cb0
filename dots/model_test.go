package dots_test

import (
	"strings"
	"testing"

	"posthorn/api"
	"posthorn/dots"
)

// modelEnd is the place of a stream's end; -1, if it has none.
func modelEnd(s string) int {
	at := 0
	for {
		row, behind, ended := strings.Cut(s[at:], "\r\n")
		if !ended {
			return -1
		}
		at = len(s) - len(behind)
		if row == "." {
			return at
		}
	}
}

// modelBody is the bytes of the body that are certain in a stream with nothing behind its end.
func modelBody(s string) string {
	rows := strings.Split(s, "\r\n")
	if modelEnd(s) >= 0 {
		rows = append(rows[:len(rows)-2], "")
	}
	var out strings.Builder
	for _, row := range rows[:len(rows)-1] {
		out.WriteString(strings.TrimPrefix(row, ".") + "\r\n")
	}
	if last := rows[len(rows)-1]; last != "." && last != ".\r" {
		out.WriteString(strings.TrimPrefix(last, "."))
	}
	return out.String()
}

// modelHeld is how many bytes of a stream are not certain.
func modelHeld(s string) int {
	last := s
	if i := strings.LastIndex(s, "\r\n"); i >= 0 {
		last = s[i+2:]
	}
	if last == "." || last == ".\r" {
		return len(last)
	}
	return 0
}

// hasBare tells whether a CR or LF stands in a body that belongs to no line end.
func hasBare(s string) bool {
	return strings.ContainsAny(strings.ReplaceAll(s, "\r\n", "/"), "\r\n")
}

// hasLong tells whether a line of a body has more than text bytes.
func hasLong(s string, text int) bool {
	for _, row := range strings.Split(s, "\r\n") {
		if len(row) > text {
			return true
		}
	}
	return false
}

// hasHigh tells whether a body has bytes above 127.
func hasHigh(s string) bool {
	for i := range len(s) {
		if s[i] >= 0x80 {
			return true
		}
	}
	return false
}

// modelItem is the end of a body.
func modelItem(s string, text, all int) api.Item {
	item := api.Item{Kind: api.ItemEnd, High: hasHigh(s)}
	switch {
	case hasBare(s):
		item.Why = api.ErrBare
	case hasLong(s, text):
		item.Why = api.ErrText
	case len(s) > all:
		item.Why = api.ErrBig
	}
	return item
}

// model is what the chapter says of a stream, behind each of its bytes.
type model struct {
	stream    string
	text, all int
	end       int   // -1: there is none
	certain   []int // how many bytes of the body are told behind so many bytes
	held      []int
	body      string
	last      api.Item
}

// modelOf asks the words of the chapter for each beginning of a stream.
func modelOf(s string, text, all int) *model {
	m := &model{stream: s, text: text, all: all, end: modelEnd(s)}
	most := len(s)
	if m.end >= 0 {
		most = m.end
	}
	for i := range most + 1 {
		m.certain = append(m.certain, min(len(modelBody(s[:i])), all))
		m.held = append(m.held, modelHeld(s[:i]))
	}
	m.body = modelBody(s[:most])
	if m.end >= 0 {
		m.last = modelItem(m.body, text, all)
	}
	return m
}

// walk is a reader that is held against a model.
type walk struct {
	*model
	r         *dots.Reader
	at        int  // how many bytes were taken
	met, over bool // the end was met; it was told
	told      strings.Builder
}

// next is what is to come of a Take of a piece that ends at that place.
func (w *walk) next(to int) (int, api.Item) {
	switch {
	case w.over:
		return 0, none()
	case w.met:
		w.over = true
		return 0, w.last
	}
	from := w.at
	w.at = to
	if w.end >= 0 && to >= w.end {
		w.at, w.met = w.end, true
	}
	bytes := w.body[:w.certain[w.at]][w.certain[from]:]
	if len(bytes) > 0 {
		return w.at - from, body(bytes)
	}
	if w.met {
		w.over = true
		return w.at - from, w.last
	}
	return w.at - from, none()
}

// take asks one Take of the stream up to that place, and Held behind it.
func (w *walk) take(t *testing.T, to int, cuts ...int) {
	t.Helper()
	to = max(to, w.at)
	piece := []byte(w.stream[w.at:to])
	want, wantItem := w.next(to)
	n, item := w.r.Take(piece)
	if n != want || !same(item, wantItem) {
		t.Fatalf("%.80q, text %d, all %d, cut at %d: Take(%.80q) %d, %s, want %d, %s", w.stream, w.text, w.all, cuts, piece, n, show(item), want, show(wantItem))
	}
	w.told.Write(item.Bytes)
	if held := w.r.Held(); held != w.held[w.at] {
		t.Fatalf("%.80q, text %d, all %d, cut at %d: Held %d behind %d bytes", w.stream, w.text, w.all, cuts, held, w.at)
	}
}

// check takes a stream in these pieces, then what is left of it, then more.
func (m *model) check(t *testing.T, cuts ...int) *walk {
	t.Helper()
	w := &walk{model: m, r: reader(t, m.text, m.all)}
	for _, to := range cuts {
		w.take(t, to, cuts...)
	}
	w.take(t, len(m.stream), cuts...)
	for range 3 {
		w.take(t, w.at, cuts...)
		w.take(t, len(m.stream), cuts...)
	}
	return w
}

// check asks for all that comes of a stream, cut at these places.
func check(t *testing.T, text, all int, s string, cuts ...int) {
	t.Helper()
	modelOf(s, text, all).check(t, cuts...)
}

// everyPlace is all ends of pieces of one byte each but the last one.
func everyPlace(s string) (cuts []int) {
	for i := 1; i < len(s); i++ {
		cuts = append(cuts, i)
	}
	return cuts
}
