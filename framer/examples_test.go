package framer_test

import (
	"fmt"
	"testing"

	"posthorn/api"
	"posthorn/framer"
)

// The chapter's section Examples, one by one.

// few are the limits of the chapter's examples.
var few = limits(10, 10, 20)

// limits are some with these bounds of a line, of a body's line and of a body.
func limits(line, text, message int) api.Limits {
	return api.Limits{Line: line, Text: text, Message: message, Rcpts: 1, Errors: 1, Hops: 1}
}

// made is a framer with these limits.
func made(t *testing.T, l api.Limits) *framer.Framer {
	t.Helper()
	f, e := framer.New(l)
	if f == nil || e != api.OK {
		t.Fatalf("New(%v): %v, %d", l, f, e)
	}
	return f
}

// same tells whether two items are one in each of their fields.
func same(a, b api.Item) bool {
	return a.Kind == b.Kind && a.Text == b.Text && string(a.Bytes) == string(b.Bytes) && a.Why == b.Why && a.High == b.High
}

func none() api.Item             { return api.Item{} }
func right(s string) api.Item    { return api.Item{Kind: api.ItemLine, Text: s} }
func bad(why api.Errno) api.Item { return api.Item{Kind: api.ItemBad, Why: why} }
func body(s string) api.Item     { return api.Item{Kind: api.ItemBody, Bytes: []byte(s)} }
func end(why api.Errno) api.Item { return api.Item{Kind: api.ItemEnd, Why: why} }
func highEnd(why api.Errno) api.Item {
	return api.Item{Kind: api.ItemEnd, Why: why, High: true}
}

// show is an item as a failure tells it; great ones are not told whole.
func show(x api.Item) string {
	return fmt.Sprintf("{kind %d, text %.80q, %d bytes %.80q, why %d, high %v}", x.Kind, x.Text, len(x.Bytes), x.Bytes, x.Why, x.High)
}

// wantTake asks one Take.
func wantTake(t *testing.T, f *framer.Framer, b string, n int, want api.Item) {
	t.Helper()
	if got, item := f.Take([]byte(b)); got != n || !same(item, want) {
		t.Fatalf("Take(%.80q): %d, %s, want %d, %s", b, got, show(item), n, show(want))
	}
}

// wantMode asks Mode.
func wantMode(t *testing.T, f *framer.Framer, want int) {
	t.Helper()
	if mode := f.Mode(); mode != want {
		t.Fatalf("Mode %d, want %d", mode, want)
	}
}

// wantHeld asks Held.
func wantHeld(t *testing.T, f *framer.Framer, want int) {
	t.Helper()
	if held := f.Held(); held != want {
		t.Fatalf("Held %d, want %d", held, want)
	}
}

// wantData asks Data, and the mode behind it where it is answered with OK.
func wantData(t *testing.T, f *framer.Framer, want api.Errno) {
	t.Helper()
	if e := f.Data(); e != want {
		t.Fatalf("Data: %d, want %d", e, want)
	}
	if want == api.OK {
		wantMode(t, f, framer.Data)
	}
}

// wantChunk asks Chunk, and the mode behind it where it is answered with OK.
func wantChunk(t *testing.T, f *framer.Framer, n, room int64, want api.Errno) {
	t.Helper()
	if e := f.Chunk(n, room); e != want {
		t.Fatalf("Chunk(%d, %d): %d, want %d", n, room, e, want)
	}
	if want == api.OK {
		wantMode(t, f, framer.Chunk)
	}
}

func TestModesByNumber(t *testing.T) {
	if framer.Lines != 1 || framer.Data != 2 || framer.Chunk != 3 {
		t.Fatalf("the modes are %d, %d, %d", framer.Lines, framer.Data, framer.Chunk)
	}
}

func TestExampleOfLines(t *testing.T) {
	f := made(t, few)
	wantTake(t, f, "ab\r\ncd", 4, right("ab"))
	wantTake(t, f, "cd", 2, none())
	wantData(t, f, api.ErrState)
	wantTake(t, f, "\r\n", 2, right("cd"))
}

func TestExampleOfBody(t *testing.T) {
	f := made(t, few)
	wantData(t, f, api.OK)
	wantTake(t, f, "x\r\n.\r\ny", 6, body("x\r\n"))
	wantTake(t, f, "y", 0, end(api.OK))
	wantMode(t, f, framer.Lines)
	wantTake(t, f, "y", 1, none())
}

func TestExampleOfChunks(t *testing.T) {
	f := made(t, few)
	wantChunk(t, f, 3, 2, api.OK)
	wantTake(t, f, "abcd", 3, body("ab"))
	wantTake(t, f, "d", 0, end(api.OK))
	wantChunk(t, f, 3, 0, api.OK)
	wantTake(t, f, "abcd", 3, end(api.OK))
	wantChunk(t, f, 0, 0, api.OK)
	wantTake(t, f, "", 0, end(api.OK))
	wantChunk(t, f, -1, 0, api.ErrArg)
}

func TestExampleOfLineEndCutByChunk(t *testing.T) {
	f := made(t, few)
	wantChunk(t, f, 2, 2, api.OK)
	wantTake(t, f, "b\r\n", 2, body("b\r"))
	wantTake(t, f, "\n", 0, end(api.OK))
	wantTake(t, f, "\n", 1, none())
	wantData(t, f, api.ErrState)
	wantTake(t, f, "\r\n", 2, bad(api.ErrBare))
}
