package dots_test

import (
	"fmt"
	"testing"

	"posthorn/api"
	"posthorn/dots"
)

// The chapter's section Examples, row by row.

// reader is one for lines of at most text bytes and bodies of at most all.
func reader(t *testing.T, text, all int) *dots.Reader {
	t.Helper()
	r, e := dots.New(text, all)
	if r == nil || e != api.OK {
		t.Fatalf("New(%d, %d): %v, %d", text, all, r, e)
	}
	return r
}

// same tells whether two items are one in each of their fields.
func same(a, b api.Item) bool {
	return a.Kind == b.Kind && a.Text == b.Text && string(a.Bytes) == string(b.Bytes) && a.Why == b.Why && a.High == b.High
}

func none() api.Item           { return api.Item{} }
func body(s string) api.Item   { return api.Item{Kind: api.ItemBody, Bytes: []byte(s)} }
func end(w api.Errno) api.Item { return api.Item{Kind: api.ItemEnd, Why: w} }
func highEnd(w api.Errno) api.Item {
	return api.Item{Kind: api.ItemEnd, Why: w, High: true}
}

// show is an item as a failure tells it; great ones are not told whole.
func show(x api.Item) string {
	return fmt.Sprintf("{kind %d, text %q, %d bytes %.80q, why %d, high %v}", x.Kind, x.Text, len(x.Bytes), x.Bytes, x.Why, x.High)
}

// wantTake asks one Take.
func wantTake(t *testing.T, r *dots.Reader, b string, n int, want api.Item) {
	t.Helper()
	if got, item := r.Take([]byte(b)); got != n || !same(item, want) {
		t.Fatalf("Take(%.80q): %d, %s, want %d, %s", b, got, show(item), n, show(want))
	}
}

// wantHeld asks Held.
func wantHeld(t *testing.T, r *dots.Reader, want int) {
	t.Helper()
	if held := r.Held(); held != want {
		t.Fatalf("Held %d, want %d", held, want)
	}
}

func TestExamplesOfCheck(t *testing.T) {
	for _, c := range []struct {
		body string
		text int
		want api.Errno
	}{
		{"", 1, api.OK}, {"ab\r\n", 2, api.OK}, {"abc\r\n", 2, api.ErrText}, {"ab", 9, api.ErrLast},
		{"a\nb\r\n", 9, api.ErrBare}, {"ab\r\n\r", 9, api.ErrBare}, {"a\r\n", 0, api.ErrArg},
	} {
		if e := dots.Check([]byte(c.body), c.text); e != c.want {
			t.Fatalf("Check(%q, %d): %d, want %d", c.body, c.text, e, c.want)
		}
	}
}

func TestExamplesOfStuff(t *testing.T) {
	for _, c := range []struct {
		body, want string
		e          api.Errno
	}{
		{"", ".\r\n", api.OK}, {".a\r\nb\r\n\r\n..\r\n", "..a\r\nb\r\n\r\n...\r\n.\r\n", api.OK}, {"a", "", api.ErrLast},
	} {
		if out, e := dots.Stuff([]byte(c.body)); string(out) != c.want || e != c.e {
			t.Fatalf("Stuff(%q): %q, %d, want %q, %d", c.body, out, e, c.want, c.e)
		}
	}
}

func TestExamplesOfNew(t *testing.T) {
	for _, c := range [][2]int{{0, 9}, {9, 1<<24 + 1}} {
		if r, e := dots.New(c[0], c[1]); r != nil || e != api.ErrArg {
			t.Fatalf("New(%d, %d): %v, %d", c[0], c[1], r, e)
		}
	}
}

func TestExamplesOfTake(t *testing.T) {
	r := reader(t, 9, 99)
	wantTake(t, r, "ab\r\n..", 6, body("ab\r\n."))
	wantHeld(t, r, 0)
	wantTake(t, r, "c\r", 2, body("c\r"))
	wantTake(t, r, "\n.", 2, body("\n"))
	wantHeld(t, r, 1)
	wantTake(t, r, "\r", 1, none())
	wantHeld(t, r, 2)
	wantTake(t, r, "\nQUIT\r\n", 1, end(api.OK))
	wantTake(t, r, "x", 0, none())

	wantTake(t, reader(t, 9, 99), ".\r\n", 3, end(api.OK))

	r = reader(t, 9, 99)
	wantTake(t, r, "a\r\n.\r\nb", 6, body("a\r\n"))
	wantTake(t, r, "", 0, end(api.OK))
	wantHeld(t, r, 0)

	r = reader(t, 9, 99)
	wantTake(t, r, "\n.\n.\r\n", 6, body("\n.\n.\r\n"))
	wantTake(t, r, ".\r\n", 3, end(api.ErrBare))

	r = reader(t, 2, 4)
	wantTake(t, r, "abc\r\nx\r\n.\r\n", 11, body("abc\r"))
	wantTake(t, r, "", 0, end(api.ErrText))

	r = reader(t, 9, 3)
	wantTake(t, r, "a\xff\r\n", 4, body("a\xff\r"))
	wantTake(t, r, "b\r\n", 3, none())
	wantTake(t, r, ".\r\n", 3, highEnd(api.ErrBig))
}
