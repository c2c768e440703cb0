package line_test

import (
	"strings"
	"testing"

	"posthorn/api"
	"posthorn/line"
)

// taken is an item, and how many bytes were taken for it since the one ahead of it.
type taken struct {
	item api.Item
	size int
}

// modelItems is what the chapter says of a stream as a whole: its items but ItemNone, and how many bytes stand
// behind the last line's end.
func modelItems(s string, most int) (items []taken, left int) {
	for {
		ahead, behind, ended := strings.Cut(s, "\r\n")
		if !ended {
			return items, len(s)
		}
		items = append(items, taken{modelItem(ahead, most), len(ahead) + len("\r\n")})
		s = behind
	}
}

// modelItem is the item of a line.
func modelItem(s string, most int) api.Item {
	switch {
	case strings.ContainsAny(s, "\r\n"):
		return bad(api.ErrBare)
	case len(s) > most:
		return bad(api.ErrLine)
	}
	return right(s)
}

// mayBeRight tells whether bytes of a line that has not ended are those of a right one, however it goes on.
func mayBeRight(s string, most int) bool {
	return modelItem(strings.TrimSuffix(s, "\r"), most).Kind == api.ItemLine
}

// wantHeld asks Held of a liner that took all of s.
func wantHeld(t *testing.T, l *line.Liner, s string, most int) {
	t.Helper()
	lines := strings.Split(s, "\r\n")
	begun := lines[len(lines)-1]
	held := l.Held()
	if held < 0 || held > len(begun) || held > most+8 {
		t.Fatalf("behind %.80q, most %d: Held %d", s, most, held)
	}
	// A line that may still be told can't be kept in fewer bytes.
	if mayBeRight(begun, most) && held != len(begun) {
		t.Fatalf("behind %.80q, most %d: Held %d, want %d", s, most, held, len(begun))
	}
}

// takeAll takes pieces of s, each to its end; what came of them, and how many bytes were taken for it.
func takeAll(t *testing.T, l *line.Liner, most int, s string, ends ...int) (items []taken, left int) {
	t.Helper()
	begin := 0
	for _, end := range append(ends[:len(ends):len(ends)], len(s)) {
		for {
			n, item := l.Take([]byte(s[begin:end]))
			if n < 0 || n > end-begin || item.Kind == api.ItemNone && n != end-begin {
				t.Fatalf("%.80q, cut at %d: Take of %.80q took %d, %#v", s, ends, s[begin:end], n, item)
			}
			begin, left = begin+n, left+n
			wantHeld(t, l, s[:begin], most)
			if item.Kind == api.ItemNone {
				if !same(item, none()) {
					t.Fatalf("%.80q, cut at %d: %#v", s, ends, item)
				}
				break
			}
			items, left = append(items, taken{item, left}), 0
		}
	}
	return items, left
}

// check holds what comes of a stream, in these pieces, against the words.
func check(t *testing.T, most int, s string, ends ...int) {
	t.Helper()
	want, wantLeft := modelItems(s, most)
	items, left := takeAll(t, liner(t, most), most, s, ends...)
	if len(items) != len(want) || left != wantLeft {
		t.Fatalf("%.80q, most %d, cut at %d: %#v and %d, want %#v and %d", s, most, ends, items, left, want, wantLeft)
	}
	for i, x := range items {
		if !same(x.item, want[i].item) || x.size != want[i].size {
			t.Fatalf("%.80q, most %d, cut at %d: item %d is %#v, want %#v", s, most, ends, i, x, want[i])
		}
	}
}

// everyPlace is all ends of pieces of one byte each but the last one.
func everyPlace(s string) (ends []int) {
	for i := 1; i < len(s); i++ {
		ends = append(ends, i)
	}
	return ends
}
