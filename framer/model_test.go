package framer_test

import (
	"fmt"
	"strings"
	"testing"

	"posthorn/api"
	"posthorn/dots"
	"posthorn/framer"
	"posthorn/line"
)

// modelLine is the item of a line.
func modelLine(s string, most int) api.Item {
	switch {
	case strings.ContainsAny(s, "\r\n"):
		return bad(api.ErrBare)
	case len(s) > most:
		return bad(api.ErrLine)
	}
	return right(s)
}

// modelEnd is the place behind the first line of a body's bytes that is one dot; -1, if there is none.
func modelEnd(s string) int {
	if i := strings.Index("\r\n"+s, "\r\n.\r\n"); i >= 0 {
		return i + len(".\r\n")
	}
	return -1
}

// modelBody is the body's bytes that are certain, with nothing behind its end.
func modelBody(s string) string {
	rows := strings.Split(s, "\r\n")
	if modelEnd(s) >= 0 {
		rows = append(rows[:len(rows)-2], "")
	}
	if last := rows[len(rows)-1]; last == "." || last == ".\r" {
		rows[len(rows)-1] = ""
	}
	for i := range rows {
		rows[i] = strings.TrimPrefix(rows[i], ".")
	}
	return strings.Join(rows, "\r\n")
}

// modelBodyEnd is the end of a body.
func modelBodyEnd(s string, l api.Limits) api.Item {
	item := api.Item{Kind: api.ItemEnd}
	for i := range len(s) {
		item.High = item.High || s[i] >= 0x80
	}
	long := false
	for _, row := range strings.Split(s, "\r\n") {
		long = long || len(row) > l.Text
	}
	switch {
	case strings.ContainsAny(strings.ReplaceAll(s, "\r\n", ""), "\r\n"):
		item.Why = api.ErrBare
	case long:
		item.Why = api.ErrText
	case len(s) > l.Message:
		item.Why = api.ErrBig
	}
	return item
}

// call is what is asked of a framer behind an item: nothing (in the mode Lines), Data or Chunk.
type call struct {
	mode    int
	n, room int64
}

func lines() call              { return call{mode: framer.Lines} }
func data() call               { return call{mode: framer.Data} }
func chunk(n, room int64) call { return call{mode: framer.Chunk, n: n, room: room} }

// walk is a framer that is held against the document's words: the same bytes are asked for, and the same calls.
type walk struct {
	l      api.Limits
	stream string
	plan   []call // the first at the beginning, the others behind lines, bad lines and ends
	cuts   []int

	f         *framer.Framer
	now       call // what comes
	begin, at int  // where it began, and how many bytes were taken
	met       bool // its end was taken, and is not told yet
	items     []api.Item
}

// modelTold is the bytes of what comes that are to be told when it was taken up to a place.
func (w *walk) modelTold(to int) string {
	s := w.stream[w.begin:to]
	if w.now.mode == framer.Chunk {
		return s[:min(w.now.room, int64(len(s)))]
	}
	s = modelBody(s)
	return s[:min(len(s), w.l.Message)]
}

// modelStop is the place of the end of what comes; -1, if it is not there up to a place.
func (w *walk) modelStop(to int) int {
	s := w.stream[w.begin:to]
	switch w.now.mode {
	case framer.Lines:
		if i := strings.Index(s, "\r\n"); i >= 0 {
			return w.begin + i + len("\r\n")
		}
	case framer.Data:
		if i := modelEnd(s); i >= 0 {
			return w.begin + i
		}
	case framer.Chunk:
		if w.now.n <= int64(len(s)) {
			return w.begin + int(w.now.n)
		}
	}
	return -1
}

// modelLast is the item that tells the end of what comes, which was taken.
func (w *walk) modelLast() api.Item {
	s := w.stream[w.begin:w.at]
	switch w.now.mode {
	case framer.Lines:
		return modelLine(strings.TrimSuffix(s, "\r\n"), w.l.Line)
	case framer.Data:
		return modelBodyEnd(modelBody(s), w.l)
	}
	return end(api.OK)
}

// next is what is to come of a Take of the bytes up to a place, and whether an end is told by it.
func (w *walk) next(to int) (n int, item api.Item, whole bool) {
	from := w.at
	if !w.met {
		w.at = to
		if stop := w.modelStop(to); stop >= 0 {
			w.at, w.met = stop, true
		}
		if w.now.mode != framer.Lines {
			if told := w.modelTold(w.at)[len(w.modelTold(from)):]; told != "" {
				return w.at - from, body(told), false
			}
		}
	}
	if !w.met {
		return w.at - from, none(), false
	}
	return w.at - from, w.modelLast(), true
}

// fail tells what was asked, and what was wrong.
func (w *walk) fail(t *testing.T, format string, args ...any) {
	t.Helper()
	t.Fatalf("%v, %.80q, calls %v, cut at %d, behind %d bytes: %s", w.l, w.stream, w.plan, w.cuts, w.at, fmt.Sprintf(format, args...))
}

// take asks one Take of the stream up to a place, and all that may be asked behind it; whether an item was told.
func (w *walk) take(t *testing.T, to int) bool {
	t.Helper()
	to = max(to, w.at)
	piece := []byte(w.stream[w.at:to])
	want, wantItem, whole := w.next(to)
	n, item := w.f.Take(piece)
	if n != want || !same(item, wantItem) {
		w.fail(t, "Take(%.80q) %d, %s, want %d, %s", piece, n, show(item), want, show(wantItem))
	}
	w.join(item)
	if whole {
		w.begin, w.met, w.now = w.at, false, lines()
	}
	w.ask(t)
	if whole && len(w.plan) > 0 {
		w.call(t)
	}
	return item.Kind != api.ItemNone
}

// join puts an item behind the others, ItemBodies side by side as one.
func (w *walk) join(item api.Item) {
	last := len(w.items) - 1
	switch {
	case item.Kind == api.ItemNone:
	case item.Kind == api.ItemBody && last >= 0 && w.items[last].Kind == api.ItemBody:
		w.items[last].Bytes = append(w.items[last].Bytes, item.Bytes...)
	default:
		w.items = append(w.items, item)
	}
}

// call asks for what the plan says next, where it may be asked for.
func (w *walk) call(t *testing.T) {
	t.Helper()
	w.now, w.plan = w.plan[0], w.plan[1:]
	e := api.OK
	switch w.now.mode {
	case framer.Data:
		e = w.f.Data()
	case framer.Chunk:
		e = w.f.Chunk(w.now.n, w.now.room)
	}
	if e != api.OK {
		w.fail(t, "%v: %d", w.now, e)
	}
	w.ask(t)
}

// ask asks for the mode, for what is held, and for what may not be asked for now, which changes nothing.
func (w *walk) ask(t *testing.T) {
	t.Helper()
	if mode := w.f.Mode(); mode != w.now.mode {
		w.fail(t, "Mode %d, want %d", mode, w.now.mode)
	}
	if held := w.f.Held(); held != w.modelHeld() || held > w.l.Line+8 || held > w.at-w.begin {
		w.fail(t, "Held %d, want %d", held, w.modelHeld())
	}
	for _, c := range [][2]int64{{-1, 0}, {0, -1}, {-1, -1}} {
		if e := w.f.Chunk(c[0], c[1]); e != api.ErrArg {
			w.fail(t, "Chunk(%d, %d): %d", c[0], c[1], e)
		}
	}
	if w.now.mode == framer.Lines && w.at == w.begin {
		return
	}
	if e := w.f.Data(); e != api.ErrState {
		w.fail(t, "Data: %d", e)
	}
	for _, c := range [][2]int64{{0, 0}, {1, 1}, {9, 9}} {
		if e := w.f.Chunk(c[0], c[1]); e != api.ErrState {
			w.fail(t, "Chunk(%d, %d): %d", c[0], c[1], e)
		}
	}
}

// modelHeld is what the layers below tell of as many bytes of what comes.
func (w *walk) modelHeld() int {
	taken := []byte(w.stream[w.begin:w.at])
	switch w.now.mode {
	case framer.Lines:
		l, _ := line.New(w.l.Line)
		l.Take(taken)
		return l.Held()
	case framer.Data:
		r, _ := dots.New(w.l.Text, w.l.Message)
		r.Take(taken)
		return r.Held()
	}
	return 0
}

// begin is a framer with these limits that has taken nothing, and of which the first call was asked.
func begin(t *testing.T, l api.Limits, stream string, plan []call, cuts ...int) *walk {
	t.Helper()
	w := &walk{l: l, stream: stream, plan: plan, cuts: cuts, f: made(t, l), now: lines()}
	w.ask(t)
	if len(plan) > 0 {
		w.call(t)
	}
	return w
}

// rest takes a piece to its end.
func (w *walk) rest(t *testing.T, to int) {
	t.Helper()
	for w.take(t, to) {
	}
}

// check takes a stream in these pieces, with these calls, each piece to its end; it tells what came of it.
func check(t *testing.T, l api.Limits, stream string, plan []call, cuts ...int) *walk {
	t.Helper()
	w := begin(t, l, stream, plan, cuts...)
	for _, to := range cuts {
		w.rest(t, to)
	}
	w.rest(t, len(stream))
	return w
}

// checkOnce does likewise, but with one Take up to each place, whether that took all of it or not.
func checkOnce(t *testing.T, l api.Limits, stream string, plan []call, cuts ...int) *walk {
	t.Helper()
	w := begin(t, l, stream, plan, cuts...)
	for _, to := range cuts {
		w.take(t, to)
	}
	w.rest(t, len(stream))
	return w
}

// everyPlace is all ends of pieces of one byte each but the last one.
func everyPlace(s string) (cuts []int) {
	for i := 1; i < len(s); i++ {
		cuts = append(cuts, i)
	}
	return cuts
}

// eachCut calls f with every way to cut so many bytes.
func eachCut(n int, f func(cuts []int)) {
	for cut := range 1 << max(n-1, 0) {
		var cuts []int
		for i := 1; i < n; i++ {
			if cut>>(i-1)&1 == 1 {
				cuts = append(cuts, i)
			}
		}
		f(cuts)
	}
}

// eachStream calls f with all streams of these bytes, of at most so many.
func eachStream(bytes string, most int, f func(string)) {
	streams := []string{""}
	for range most + 1 {
		var longer []string
		for _, s := range streams {
			f(s)
			for i := range len(bytes) {
				longer = append(longer, s+bytes[i:i+1])
			}
		}
		streams = longer
	}
}
