package line_test

import (
	"testing"

	"posthorn/api"
	"posthorn/line"
)

// The chapter's section Examples, row by row.

// liner is one for lines of at most so many bytes.
func liner(t *testing.T, most int) *line.Liner {
	t.Helper()
	l, e := line.New(most)
	if l == nil || e != api.OK {
		t.Fatalf("New(%d): %v, %d", most, l, e)
	}
	return l
}

// same tells whether two items are one in each of their fields.
func same(a, b api.Item) bool {
	return a.Kind == b.Kind && a.Text == b.Text && string(a.Bytes) == string(b.Bytes) && a.Why == b.Why && a.High == b.High
}

func none() api.Item             { return api.Item{} }
func right(s string) api.Item    { return api.Item{Kind: api.ItemLine, Text: s} }
func bad(why api.Errno) api.Item { return api.Item{Kind: api.ItemBad, Why: why} }

// wantTake asks one Take.
func wantTake(t *testing.T, l *line.Liner, b string, n int, want api.Item) {
	t.Helper()
	if got, item := l.Take([]byte(b)); got != n || !same(item, want) {
		t.Fatalf("Take(%.80q): %d, %#v, want %d, %#v", b, got, item, n, want)
	}
}

func TestExamplesOfNew(t *testing.T) {
	for _, most := range []int{0, 1<<24 + 1} {
		if l, e := line.New(most); l != nil || e != api.ErrArg {
			t.Fatalf("New(%d): %v, %d", most, l, e)
		}
	}
}

func TestExamplesOfTake(t *testing.T) {
	l := liner(t, 5)
	wantTake(t, l, "ab\r\ncd\r\n", 4, right("ab"))
	wantTake(t, l, "cd\r\n", 4, right("cd"))

	wantTake(t, l, "a", 1, none())
	wantTake(t, l, "b\r", 2, none())
	wantTake(t, l, "\nx", 1, right("ab"))

	wantTake(t, l, "\r\n", 2, right(""))

	wantTake(t, l, "abcde\r\n", 7, right("abcde"))
	wantTake(t, l, "abcdef\r\n", 8, bad(api.ErrLine))

	wantTake(t, l, "a\nb\r\n", 5, bad(api.ErrBare))
	wantTake(t, l, "\n\r\n", 3, bad(api.ErrBare))
	wantTake(t, l, "\r\r\n", 3, bad(api.ErrBare))

	wantTake(t, l, "abcdef\rg\r\n", 10, bad(api.ErrBare))

	wantTake(t, l, "", 0, none())
}
