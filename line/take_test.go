package line_test

import (
	"math"
	"strings"
	"testing"

	"posthorn/api"
	"posthorn/line"
)

func xs(n int) string { return strings.Repeat("x", n) }

// P13.1: New at its bounds and beyond them.
func TestNew(t *testing.T) {
	for _, most := range []int{1, 2, 512, api.MaxLimit - 1, api.MaxLimit} {
		l := liner(t, most)
		if l.Held() != 0 {
			t.Fatalf("New(%d): Held %d", most, l.Held())
		}
		wantTake(t, l, "", 0, none())
		wantTake(t, l, "a\r\n", 3, right("a"))
	}
	for _, most := range []int{0, -1, -512, -api.MaxLimit, api.MaxLimit + 1, 2 * api.MaxLimit, 1 << 32, 1<<32 + 1, 1<<62 + 5, math.MaxInt32, math.MinInt32, math.MaxInt, math.MinInt} {
		if l, e := line.New(most); l != nil || e != api.ErrArg {
			t.Fatalf("New(%d): %v, %d", most, l, e)
		}
	}
}

// P13.1: what New makes has taken nothing, whatever others took.
func TestNewTookNothing(t *testing.T) {
	for _, s := range []string{"a", "a\r", "\r", "\n", "abcdef", "abcdef\r", "a\rb"} {
		wantTake(t, liner(t, 5), s, len(s), none())
		wantTake(t, liner(t, 5), "\nx\r\n", 4, bad(api.ErrBare))
		wantTake(t, liner(t, 5), "abcde\r\n", 7, right("abcde"))
	}
}

// P13.2: no bytes take nothing, wherever the liner stands, and change nothing.
func TestNoBytes(t *testing.T) {
	for _, c := range []struct {
		s    string
		want api.Item
	}{
		{"", right("")}, {"ab", right("ab")}, {"abcdef", bad(api.ErrLine)}, {"a\rb", bad(api.ErrBare)}, {"\n", bad(api.ErrBare)}, {"\r", bad(api.ErrBare)},
	} {
		l := liner(t, 5)
		wantTake(t, l, c.s, len(c.s), none())
		held := l.Held()
		for _, b := range [][]byte{nil, {}, make([]byte, 0, 9)} {
			if n, item := l.Take(b); n != 0 || !same(item, none()) || l.Held() != held {
				t.Fatalf("Take of no bytes behind %q: %d, %#v, Held %d", c.s, n, item, l.Held())
			}
		}
		wantTake(t, l, "\r\n", 2, c.want)
		wantTake(t, l, "", 0, none())
	}
	l := liner(t, 5)
	wantTake(t, l, "ab\r", 3, none())
	wantTake(t, l, "", 0, none())
	wantTake(t, l, "\n", 1, right("ab"))
}

// P13.2: of several lines in one piece the first is taken, and not a byte more.
func TestSeveralLines(t *testing.T) {
	l := liner(t, 5)
	s := "ab\r\n\r\nabcdef\r\na\nb\r\ncd\r\nef\r"
	for _, c := range []struct {
		n    int
		want api.Item
	}{
		{4, right("ab")}, {2, right("")}, {8, bad(api.ErrLine)}, {5, bad(api.ErrBare)}, {4, right("cd")}, {3, none()},
	} {
		wantTake(t, l, s, c.n, c.want)
		s = s[c.n:]
	}
	wantTake(t, l, "\n", 1, right("ef"))

	// What was not taken does not count, though it was handed in.
	wantTake(t, l, "ab\r\n\n\r\r", 4, right("ab"))
	wantTake(t, l, "cd\r\n", 4, right("cd"))
}

// P13.2: lines at the edge of most, and far behind it.
func TestLengths(t *testing.T) {
	for _, most := range []int{1, 2, 5, 8, 510, 512, 513, 998, 4096} {
		for _, n := range []int{0, 1, most - 1, most, most + 1, most + 2, most + 7, most + 8, most + 9, 2 * most, 9*most + 99} {
			want := right(xs(n))
			if n > most {
				want = bad(api.ErrLine)
			}
			l := liner(t, most)
			wantTake(t, l, xs(n)+"\r\n", n+2, want)
			wantTake(t, l, "a\r\n", 3, right("a"))
			check(t, most, xs(n)+"\r\n"+xs(most)+"\r\n"+xs(most+1)+"\r\n")
			if n > 0 {
				check(t, most, xs(n)+"\r\n"+xs(n)+"\r\n", 1, n, n+1, n+2, 2*n+2, 2*n+3)
			}
		}
	}
}

// P13.1, P13.2, P13.3: the greatest lines that may be.
func TestGreatestLines(t *testing.T) {
	const most = api.MaxLimit
	s := xs(most + 9)
	l := liner(t, most)
	wantTake(t, l, s[:most], most, none())
	if l.Held() != most {
		t.Fatalf("Held %d", l.Held())
	}
	wantTake(t, l, "\r\n", 2, right(s[:most]))
	wantTake(t, l, s[:most+1]+"\r\n", most+3, bad(api.ErrLine))
	wantTake(t, l, s[:most-1]+"\r\n", most+1, right(s[:most-1]))
	wantTake(t, l, s, most+9, none())
	if l.Held() > most+8 {
		t.Fatalf("Held %d", l.Held())
	}
	wantTake(t, l, "\ra\r\n", 4, bad(api.ErrBare))
	wantTake(t, l, "a\r\n", 3, right("a"))
}

// P13.2: a CR or LF alone, in lines of all lengths, at every place of them; with it a line is bad by ErrBare however
// long it is.
func TestBareAtEveryPlace(t *testing.T) {
	for _, most := range []int{1, 2, 5, 12} {
		for n := range 3*most + 20 {
			for at := range n + 1 {
				for _, half := range []string{"\r", "\n", "\r\r", "\n\n", "\n\r", "\r\r\r"} {
					s := xs(at) + half + xs(n-at) + "\r\n"
					l := liner(t, most)
					wantTake(t, l, s, len(s), bad(api.ErrBare))
					wantTake(t, l, "a\r\n", 3, right("a"))
					check(t, most, s+"a\r\n", everyPlace(s+"a\r\n")...)
				}
			}
		}
	}
}

// P13.2: what of CRs and LFs side by side ends a line.
func TestCrsAndLfs(t *testing.T) {
	for _, c := range []struct {
		s    string
		want []api.Item
		left string
	}{
		{"\r\r\n", []api.Item{bad(api.ErrBare)}, ""},
		{"\r\r\r\n", []api.Item{bad(api.ErrBare)}, ""},
		{"\r\n\n", []api.Item{right("")}, "\n"},
		{"\r\n\n\r\n", []api.Item{right(""), bad(api.ErrBare)}, ""},
		{"\n\r\n", []api.Item{bad(api.ErrBare)}, ""},
		{"\n\n\r\n", []api.Item{bad(api.ErrBare)}, ""},
		{"\r\n\r\n", []api.Item{right(""), right("")}, ""},
		{"\r\n\r", []api.Item{right("")}, "\r"},
		{"\r\n\r\r\n", []api.Item{right(""), bad(api.ErrBare)}, ""},
		{"\n\r", nil, "\n\r"},
		{"\n\r\r\n", []api.Item{bad(api.ErrBare)}, ""},
		{"a\r\nb\n\r\nc\r\r\nd\r\n", []api.Item{right("a"), bad(api.ErrBare), bad(api.ErrBare), right("d")}, ""},
		{"a\n.\nb\r\nc\r\n", []api.Item{bad(api.ErrBare), right("c")}, ""},
		{"\ra\r\n\nb\r\nc\r\n", []api.Item{bad(api.ErrBare), bad(api.ErrBare), right("c")}, ""},
		{"abcde\r\r\n", []api.Item{bad(api.ErrBare)}, ""},
		{"abcde\rf\r\n", []api.Item{bad(api.ErrBare)}, ""},
		{"abcdefghijklmnopq\n\r\nabcde\r\n", []api.Item{bad(api.ErrBare), right("abcde")}, ""},
		{"\nabcdefghijklmnopq\r\nabcde\r\n", []api.Item{bad(api.ErrBare), right("abcde")}, ""},
		{"abcdefghijklmnopq\r\r\nabcde\r\n", []api.Item{bad(api.ErrBare), right("abcde")}, ""},
	} {
		for _, ends := range [][]int{nil, everyPlace(c.s)} {
			items, left := takeAll(t, liner(t, 5), 5, c.s, ends...)
			if len(items) != len(c.want) || left != len(c.left) {
				t.Fatalf("%q: %#v and %d", c.s, items, left)
			}
			for i, x := range items {
				if !same(x.item, c.want[i]) {
					t.Fatalf("%q: item %d is %#v, want %#v", c.s, i, x.item, c.want[i])
				}
			}
		}
	}
}

// P13.2: a CR that is the last byte that may be counts for no length: its next byte shows what it is.
func TestCrBehindMost(t *testing.T) {
	for _, c := range []struct {
		next string
		n    int
		want api.Item
	}{
		{"\n", 1, right("abcde")}, {"\r\n", 2, bad(api.ErrBare)}, {"f\r\n", 3, bad(api.ErrBare)}, {"\n\n", 1, right("abcde")},
	} {
		l := liner(t, 5)
		wantTake(t, l, "abcde\r", 6, none())
		wantTake(t, l, c.next, c.n, c.want)
		wantTake(t, l, "abcd\r\n", 6, right("abcd"))

		l = liner(t, 4)
		wantTake(t, l, "abcde\r", 6, none())
		want := c.want
		if want.Kind == api.ItemLine {
			want = bad(api.ErrLine)
		}
		wantTake(t, l, c.next, c.n, want)
		wantTake(t, l, "abcd\r\n", 6, right("abcd"))
	}
}

// P13.2: any byte but CR and LF is one like others, wherever it stands.
func TestEveryByte(t *testing.T) {
	for c := range 256 {
		if c == '\r' || c == '\n' {
			continue
		}
		x := string([]byte{byte(c)})
		for _, s := range []string{x, x + "ab", "a" + x + "b", "ab" + x, x + x + x + x + x} {
			l := liner(t, 5)
			wantTake(t, l, s+"\r\n", len(s)+2, right(s))
			wantTake(t, l, "abc"+s+"de\r\n", len(s)+7, bad(api.ErrLine))
			check(t, 5, s+"\r\n", everyPlace(s)...)
			wantTake(t, l, "a\r"+x+"\r\n", 5, bad(api.ErrBare))
			wantTake(t, l, x+"\n\r\n", 4, bad(api.ErrBare))
			wantTake(t, l, s+"\r\n", len(s)+2, right(s))
		}
	}
}

// P13.3: Held behind every byte of right, bad and too long lines (takeAll asks it behind every piece).
func TestHeldBehindEveryByte(t *testing.T) {
	for _, most := range []int{1, 5, 20} {
		for _, s := range []string{
			"ab\r\ncd\r\n", "\r\n\r\n", xs(most) + "\r\n", xs(most+1) + "\r\n", xs(most+9) + "\r\nab\r\n", xs(9*most+99) + "\r" + xs(99) + "\n" + xs(99) + "\r\na\r\n",
			"\n" + xs(most+99) + "\r\na\r\n", "\r" + xs(most+99) + "\r\na\r\n", strings.Repeat("\r", most+99) + "\n", strings.Repeat("\n", most+99) + "\r\n",
			xs(most) + strings.Repeat("\r", 99) + "\n", xs(most) + "\r\r\n", "a\rb\nc\r\nab\r",
		} {
			check(t, most, s, everyPlace(s)...)
		}
	}
	l := liner(t, 5)
	for i, c := range "abcde\r" {
		wantTake(t, l, string(c), 1, none())
		if l.Held() != i+1 {
			t.Fatalf("Held %d behind %d bytes", l.Held(), i+1)
		}
	}
	wantTake(t, l, "\nabc", 1, right("abcde"))
	if l.Held() != 0 {
		t.Fatalf("Held %d behind a line's end", l.Held())
	}
}

// P13.3: Held asks, and changes nothing.
func TestHeldChangesNothing(t *testing.T) {
	l := liner(t, 5)
	for i, s := range []string{"a", "b", "\r"} {
		wantTake(t, l, s, 1, none())
		for range 3 {
			if l.Held() != i+1 {
				t.Fatalf("Held %d behind %d bytes", l.Held(), i+1)
			}
		}
	}
	wantTake(t, l, "\n", 1, right("ab"))
}

// P13.4, R1: no liner, and one that New did not make.
func TestNoLiner(t *testing.T) {
	var no *line.Liner
	for _, l := range []*line.Liner{no, new(line.Liner), {}} {
		for range 2 {
			for _, b := range []string{"", "a", "\r\n", "a\r\n", "\n", "\r", xs(99)} {
				wantTake(t, l, b, 0, none())
				if l.Held() != 0 {
					t.Fatalf("Held %d", l.Held())
				}
			}
			if n, item := l.Take(nil); n != 0 || !same(item, none()) {
				t.Fatalf("Take(nil): %d, %#v", n, item)
			}
		}
	}
}

// R2: liners do not see one another.
func TestSideBySide(t *testing.T) {
	a, b := liner(t, 5), liner(t, 3)
	wantTake(t, a, "ab\r", 3, none())
	wantTake(t, b, "\n", 1, none())
	wantTake(t, a, "\n", 1, right("ab"))
	wantTake(t, b, "\r\nx", 2, bad(api.ErrBare))
	wantTake(t, a, "abcd", 4, none())
	wantTake(t, b, "abcd", 4, none())
	wantTake(t, a, "\r\n", 2, right("abcd"))
	wantTake(t, b, "\r\n", 2, bad(api.ErrLine))
}

// R3: what is handed in stays as it is, with the room behind its end, and is not kept.
func TestHandedIn(t *testing.T) {
	l := liner(t, 9)
	var told []api.Item
	for _, s := range []string{"ab", "cd\r", "\n", "ef\r\ngh", "gh\r\n", "a\rb\r\n", "abcdefghijkl", "\r\n", "ij\r\n"} {
		const room = "behind"
		all := []byte(s + room)
		n, item := l.Take(all[:len(s)])
		if string(all) != s+room {
			t.Fatalf("Take(%q) made %q of it", s, all)
		}
		if item.Kind != api.ItemNone {
			told = append(told, item)
		}
		for i := range all {
			all[i] = '#'
		}
		if n < len(s) && s[n:] != "gh" {
			t.Fatalf("Take(%q): %d", s, n)
		}
	}
	want := []api.Item{right("abcd"), right("ef"), right("gh"), bad(api.ErrBare), bad(api.ErrLine), right("ij")}
	if len(told) != len(want) {
		t.Fatalf("%#v", told)
	}
	// What was told stays as it was told, whatever was taken behind it.
	for i, x := range told {
		if !same(x, want[i]) {
			t.Fatalf("item %d is %#v, want %#v", i, x, want[i])
		}
	}
}

// R3: room that lies behind the end of what is handed in is not looked at.
func TestRoomBehindEnd(t *testing.T) {
	l := liner(t, 5)
	all := []byte("ab\r\ncd\r\n")
	for end := 1; end <= 3; end++ {
		if n, item := l.Take(all[end-1 : end]); n != 1 || !same(item, none()) || l.Held() != end {
			t.Fatalf("Take of byte %d: %d, %#v, Held %d", end, n, item, l.Held())
		}
	}
	if n, item := l.Take(all[3:4]); n != 1 || !same(item, right("ab")) || l.Held() != 0 {
		t.Fatalf("Take of the LF: %d, %#v, Held %d", n, item, l.Held())
	}
}
