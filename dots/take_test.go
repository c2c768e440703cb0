package dots_test

import (
	"strings"
	"testing"

	"posthorn/api"
	"posthorn/dots"
)

// P14.3: New at both ends of its bounds and beyond them.
func TestNew(t *testing.T) {
	within := []int{1, 2, 998, api.MaxLimit - 1, api.MaxLimit}
	for _, text := range within {
		for _, all := range within {
			r := reader(t, text, all)
			wantHeld(t, r, 0)
			wantTake(t, r, "", 0, none())
			wantTake(t, r, "a", 1, body("a"))
		}
		for _, out := range outOfBounds {
			for _, c := range [][2]int{{text, out}, {out, text}, {out, out}} {
				if r, e := dots.New(c[0], c[1]); r != nil || e != api.ErrArg {
					t.Fatalf("New(%d, %d): %v, %d", c[0], c[1], r, e)
				}
			}
		}
	}
}

// P14.3: the two numbers are not taken for one another.
func TestNewNumbers(t *testing.T) {
	r := reader(t, 2, 5)
	wantTake(t, r, "abc\r\n.\r\n", 8, body("abc\r\n"))
	wantTake(t, r, "", 0, end(api.ErrText))
	r = reader(t, 5, 2)
	wantTake(t, r, "abc\r\n.\r\n", 8, body("ab"))
	wantTake(t, r, "", 0, end(api.ErrBig))
}

// P14.4: what is told of the end, and behind it, whatever is handed in then.
func TestEndOnce(t *testing.T) {
	for _, more := range []string{"", "x", "\r\n", ".\r\n", "\n", "QUIT\r\n", "\xff", xs(99)} {
		r := reader(t, 9, 99)
		wantTake(t, r, "a\r\n.\r\n"+more, 6, body("a\r\n"))
		wantHeld(t, r, 0)
		wantTake(t, r, more, 0, end(api.OK))
		for range 3 {
			wantHeld(t, r, 0)
			wantTake(t, r, more, 0, none())
			wantTake(t, r, "", 0, none())
		}

		r = reader(t, 9, 99)
		wantTake(t, r, ".\r\n"+more, 3, end(api.OK))
		for range 3 {
			wantHeld(t, r, 0)
			wantTake(t, r, more, 0, none())
		}
	}
}

// P14.4: no bytes take nothing, wherever the reader stands, and change nothing.
func TestNoBytes(t *testing.T) {
	for _, s := range []string{"", "a", "\r", "\n", ".", ".\r", ".\r\r", "..", "a\r\n", "a\r\n.", "a\r\n.\r", "a\r\n.\ra", "a\r\n\r"} {
		r := reader(t, 9, 99)
		r.Take([]byte(s))
		for _, b := range [][]byte{nil, {}, make([]byte, 0, 9), []byte(".\r\n")[:0]} {
			if n, item := r.Take(b); n != 0 || !same(item, none()) {
				t.Fatalf("Take of no bytes behind %q: %d, %#v", s, n, item)
			}
			wantHeld(t, r, modelHeld(s))
		}
		w := &walk{model: modelOf(s+"\r\n.\r\nx", 9, 99), r: r, at: len(s)}
		for range 4 {
			w.take(t, len(w.stream))
		}
	}
}

// P14.4: lines that only look like an end.
func TestLooksLikeAnEnd(t *testing.T) {
	for _, c := range []struct {
		s, body string
		bare    bool
	}{
		{".\r", "", false},             // it may still be one
		{".\n", "\n", true},            // a dot and a bare LF
		{".\ra", "\ra", true},          // a dot and a bare CR
		{".\r\r\n", "\r\r\n", true},    //
		{".\r.\r\n", "\r.\r\n", true},  //
		{".\n\r\n", "\n\r\n", true},    //
		{"a\r\n.\n", "a\r\n\n", true},  // CR LF . LF
		{"a\n.\r\n", "a\n.\r\n", true}, // LF . CR LF
		{"a\r.\r\n", "a\r.\r\n", true}, // CR . CR LF
		{"a\n.\n", "a\n.\n", true},     //
		{"a\r.\r", "a\r.\r", true},     //
		{"a\r\n.\r.\r\n", "a\r\n\r.\r\n", true},
		{"\n.\r\n", "\n.\r\n", true},     // at the beginning
		{"\r.\r\n", "\r.\r\n", true},     //
		{"a.\r\n", "a.\r\n", false},      // a dot that begins no line
		{" .\r\n", " .\r\n", false},      //
		{".a\r\n", "a\r\n", false},       // a byte behind the dot
		{". \r\n", " \r\n", false},       //
		{".\x00\r\n", "\x00\r\n", false}, //
		{".\xff\r\n", "\xff\r\n", false}, //
		{"..\r\n", ".\r\n", false},       // two dots
		{"...\r\n", "..\r\n", false},     //
		{"\r\n..\r\n", "\r\n.\r\n", false},
		{"\r\n \r\n", "\r\n \r\n", false},
	} {
		for _, cuts := range [][]int{nil, everyPlace(c.s)} {
			w := modelOf(c.s, 99, 999).check(t, cuts...)
			if w.told.String() != c.body || w.met {
				t.Fatalf("%q, cut at %d: %q", c.s, cuts, w.told.String())
			}
			if c.s[len(c.s)-1] != '\n' {
				continue
			}
			ended := c.s + "\r\n.\r\n"
			w = modelOf(ended+"QUIT\r\n", 99, 999).check(t, cuts...)
			if w.told.String() != c.body+"\r\n" || w.at != len(ended) || (w.last.Why == api.ErrBare) != c.bare {
				t.Fatalf("%q, cut at %d: %q, %d bytes taken, %#v", ended, cuts, w.told.String(), w.at, w.last)
			}
		}
	}
}

// P14.4: all - 1, all, all + 1 and far more bytes, the bound at every place of a line, of its end, of dots.
func TestAll(t *testing.T) {
	for _, s := range []string{"a\r\nbc\r\n\r\nd\r\n.\r\n", "..a\r\n..\r\nbc\r\n.\r\n", ".\r.\r\n.\n.\r\r\n..\r\n.\r\nx", "\r\n\r\n.\r\n", ".\r\n", "ab\r\n.c\r\nab\rc\r\n" + xs(99) + "\r\n.\r\n"} {
		for all := 1; all <= len(s)+2; all++ {
			for _, text := range []int{1, 2, 999} {
				m := modelOf(s, text, all)
				m.check(t)
				m.check(t, everyPlace(s)...)
				for at := range len(s) {
					m.check(t, at)
				}
			}
		}
	}
	for _, all := range []int{1, 3, 10, 998, 1000} {
		for _, n := range []int{1, all - 1, all, all + 1, all + 2, 2 * all, 9*all + 99} {
			if n < 2 {
				continue
			}
			why := api.OK
			if n > all {
				why = api.ErrBig
			}
			s := xs(n-2) + "\r\n"
			r := reader(t, 99999, all)
			wantTake(t, r, s+".\r\n.\r\n", len(s)+3, body(s[:min(n, all)]))
			wantTake(t, r, "", 0, end(why))
		}
	}
}

// P14.4: the bound falls within what is not certain yet.
func TestAllWithinUncertain(t *testing.T) {
	// The CR behind a dot is the last byte that is told, or the first that is not.
	r := reader(t, 9, 4)
	wantTake(t, r, "a\r\n.\r", 5, body("a\r\n"))
	wantHeld(t, r, 2)
	wantTake(t, r, "bc", 2, body("\r"))
	wantTake(t, r, "d\r\n.\r\n", 6, end(api.ErrBare))
	r = reader(t, 9, 3)
	wantTake(t, r, "a\r\n.\r", 5, body("a\r\n"))
	wantTake(t, r, "bc", 2, none())
	wantHeld(t, r, 0)
	wantTake(t, r, "\r\n.\r\n", 5, end(api.ErrBare))
	// A dot that is held does not count till it is told, and the end never.
	r = reader(t, 9, 3)
	wantTake(t, r, "a\r\n.", 4, body("a\r\n"))
	wantTake(t, r, "\r\n", 2, end(api.OK))
	r = reader(t, 9, 3)
	wantTake(t, r, "a\r\n.", 4, body("a\r\n"))
	wantTake(t, r, ".", 1, none())
	wantTake(t, r, "\r\n.\r\n", 5, end(api.ErrBig))
	// The bound within a line end.
	r = reader(t, 9, 2)
	wantTake(t, r, "a\r", 2, body("a\r"))
	wantTake(t, r, "\n", 1, none())
	wantTake(t, r, ".\r\n", 3, end(api.ErrBig))
}

// P14.4: lines of text - 1, text and text + 1 bytes; neither the dot that is dropped nor the line end is counted.
func TestText(t *testing.T) {
	for _, text := range []int{1, 2, 5, 998} {
		for _, n := range []int{0, text - 1, text, text + 1, text + 2, 9*text + 9} {
			why := api.OK
			if n > text {
				why = api.ErrText
			}
			row := xs(n) + "\r\n"
			for _, s := range []string{row, "." + row, "\r\n" + row, row + "\r\n", row + row, "." + row + "." + row, xs(text) + "\r\n" + row + xs(text) + "\r\n", "a\r\n." + row + "b\r\n"} {
				if strings.HasPrefix("\r\n"+s, "\r\n.\r\n") || strings.Contains(s, "\r\n.\r\n") {
					continue
				}
				r := reader(t, text, api.MaxLimit)
				wantTake(t, r, s, len(s), body(modelBody(s)))
				wantTake(t, r, ".\r\n", 3, end(why))
				if text < 99 {
					check(t, text, api.MaxLimit, s+".\r\n", 1, n, n+1, n+2, n+3)
				}
			}
		}
	}
	// What is wrong is asked of all of the body, also of what is not told.
	r := reader(t, 2, 1)
	wantTake(t, r, "a\r\nab\r\n.ab\r\n", 12, body("a"))
	wantTake(t, r, "abc\r\n.\r\n", 8, end(api.ErrText))
	r = reader(t, 2, 1)
	wantTake(t, r, "a\r\nab\r\n.ab\r\n.\r\n", 15, body("a"))
	wantTake(t, r, "", 0, end(api.ErrBig))
}

// P14.4: Why where several things are wrong, in whichever order they come.
func TestWhy(t *testing.T) {
	bare, long, big := "a\nb\r\n", "abcdef\r\n", "a\r\n\r\n\r\n\r\n\r\n\r\n"
	for _, c := range []struct {
		parts []string
		want  api.Errno
	}{
		{nil, api.OK}, {[]string{bare}, api.ErrBare}, {[]string{long}, api.ErrText}, {[]string{big}, api.ErrBig},
		{[]string{long, bare}, api.ErrBare}, {[]string{bare, long}, api.ErrBare}, {[]string{big, bare}, api.ErrBare}, {[]string{bare, big}, api.ErrBare},
		{[]string{big, long}, api.ErrText}, {[]string{long, big}, api.ErrText}, {[]string{big, long, bare}, api.ErrBare}, {[]string{long, big, bare}, api.ErrBare},
		{[]string{bare, big, long}, api.ErrBare},
	} {
		for _, half := range []string{"\n", "\r", "\r\r"} {
			s := strings.ReplaceAll(strings.Join(c.parts, ""), "a\nb", "a"+half+"b") + ".\r\n"
			w := modelOf(s, 5, 12).check(t)
			if w.last.Why != c.want {
				t.Fatalf("%q: %#v, want %d", s, w.last, c.want)
			}
			check(t, 5, 12, s, everyPlace(s)...)
		}
	}
}

// P14.4: every byte wherever it stands, and High of bytes within the bound and beyond it.
func TestEveryByte(t *testing.T) {
	for c := range 256 {
		x := string([]byte{byte(c)})
		for _, s := range []string{x, "a" + x, x + "a", "." + x, ".." + x, ".\r" + x, "a\r" + x, "a\r\n" + x, x + x, xs(9) + x, xs(9) + "\r\n" + x, xs(9) + "\r\n." + x, xs(9) + "\r\n.\r" + x} {
			for _, behind := range []string{"", "\r\n.\r\n", "b\r\n.\r\nc"} {
				for _, all := range []int{1, 2, 9, 99} {
					check(t, 9, all, s+behind)
					check(t, 9, all, s+behind, everyPlace(s+behind)...)
				}
			}
		}
		want := end(api.OK)
		want.High = c > 127
		if c == '\r' || c == '\n' {
			want.Why = api.ErrBare
		}
		r := reader(t, 9, 99)
		wantTake(t, r, "a"+x+"a\r\n.\r\n\xff", 8, body("a"+x+"a\r\n"))
		wantTake(t, r, "\xff", 0, want)

		if want.Why == api.OK {
			want.Why = api.ErrBig
		}
		r = reader(t, 9, 1)
		wantTake(t, r, "a"+x+"a\r\n.\r\n", 8, body("a"))
		wantTake(t, r, "\xff", 0, want)
	}
}

// P14.3, P14.4: the greatest lines and bodies that may be.
func TestGreatest(t *testing.T) {
	const most = api.MaxLimit
	s := xs(most + 1)

	r := reader(t, most, most)
	wantTake(t, r, s[:most-2], most-2, body(s[:most-2]))
	wantTake(t, r, "\r\n.\r\n", 5, body("\r\n"))
	wantTake(t, r, "", 0, end(api.OK))

	r = reader(t, most, most)
	wantTake(t, r, s[:most]+"\r\n.\r\n", most+5, body(s[:most]))
	wantTake(t, r, "", 0, end(api.ErrBig))

	r = reader(t, most, most)
	wantTake(t, r, "."+s[:most+1]+"\r\n.\r\n", most+7, body(s[:most]))
	wantTake(t, r, "", 0, end(api.ErrText))

	r = reader(t, most-1, most)
	wantTake(t, r, s[:most]+"\r\n", most+2, body(s[:most]))
	wantTake(t, r, s, most+1, none())
	wantTake(t, r, "\r\n\xff\r\n.\r\n", 8, highEnd(api.ErrText))
}

// P14.5: Held behind every byte, at the end and behind it; and it changes nothing.
func TestHeld(t *testing.T) {
	s := ".a\r\n..\r\n.\rb\r\n.\nc.\r\r\n.\r\r\n\r\n.\r\nx"
	held := []int{1, 0, 0, 0, 1, 0, 0, 0, 1, 2, 0, 0, 0, 1, 0, 0, 0, 0, 0, 0, 1, 2, 0, 0, 0, 0, 1, 2, 0, 0}
	if len(held) != len(s) {
		t.Fatalf("%d bytes, %d numbers", len(s), len(held))
	}
	r := reader(t, 9, 99)
	for i := range len(s) {
		r.Take([]byte(s[i : i+1]))
		for range 3 {
			if r.Held() != held[i] {
				t.Fatalf("behind %q: Held %d, want %d", s[:i+1], r.Held(), held[i])
			}
		}
	}
	check(t, 9, 99, s, everyPlace(s)...)

	// Where the end waits, nothing is held.
	r = reader(t, 9, 99)
	wantTake(t, r, "a\r\n.\r\n", 6, body("a\r\n"))
	wantHeld(t, r, 0)
	wantTake(t, r, ".", 0, end(api.OK))
	wantHeld(t, r, 0)
	wantTake(t, r, ".", 0, none())
	wantHeld(t, r, 0)

	// What is beyond the bound is held as others are.
	r = reader(t, 1, 1)
	wantTake(t, r, "abc\r\n.", 6, body("a"))
	wantHeld(t, r, 1)
	wantTake(t, r, "\r", 1, none())
	wantHeld(t, r, 2)
	wantTake(t, r, "\r", 1, none())
	wantHeld(t, r, 0)
}

// P14.6, R1: no reader, and one that New did not make.
func TestNoReader(t *testing.T) {
	var no *dots.Reader
	for _, r := range []*dots.Reader{no, new(dots.Reader), {}} {
		for range 2 {
			for _, b := range []string{"", "a", ".", ".\r", ".\r\n", "a\r\n.\r\n", "\n", "\r", xs(99)} {
				wantTake(t, r, b, 0, none())
				wantHeld(t, r, 0)
			}
			if n, item := r.Take(nil); n != 0 || !same(item, none()) {
				t.Fatalf("Take(nil): %d, %#v", n, item)
			}
		}
	}
}

// R2: readers do not see one another.
func TestSideBySide(t *testing.T) {
	a, b := reader(t, 5, 9), reader(t, 3, 99)
	wantTake(t, a, "a\r", 2, body("a\r"))
	wantTake(t, b, "\n", 1, body("\n"))
	wantTake(t, a, "\n.", 2, body("\n"))
	wantTake(t, b, ".\r\n\xff", 4, body(".\r\n\xff"))
	wantHeld(t, a, 1)
	wantHeld(t, b, 0)
	wantTake(t, a, "\r\n", 2, end(api.OK))
	wantTake(t, b, "\r\n.\r\n", 5, body("\r\n"))
	c := reader(t, 3, 99)
	wantTake(t, c, ".\r\n", 3, end(api.OK))
	wantTake(t, a, "x", 0, none())
	wantTake(t, b, "x", 0, highEnd(api.ErrBare))
}

// R3: what is handed in stays as it is, with the room behind its end, and is not kept.
func TestHandedIn(t *testing.T) {
	const room = ".\r\nbehind"
	r := reader(t, 9, 99)
	var told []api.Item
	for _, s := range []string{"ab", "\r", "\n.", "\r", "c.\r\n", ".", ".d\r\n.", "", "\r\nef"} {
		all := []byte(s + room)
		_, item := r.Take(all[:len(s)])
		if string(all) != s+room {
			t.Fatalf("Take(%q) made %q of it", s, all)
		}
		for i := range all {
			all[i] = '#'
		}
		if item.Kind != api.ItemNone {
			told = append(told, item)
		}
	}
	want := []api.Item{body("ab"), body("\r"), body("\n"), body("\rc.\r\n"), body(".d\r\n"), end(api.ErrBare)}
	if len(told) != len(want) {
		t.Fatalf("%#v", told)
	}
	// What was told stays as it was told, whatever was taken behind it.
	for i, x := range told {
		if !same(x, want[i]) {
			t.Fatalf("item %d is %#v, want %#v", i, x, want[i])
		}
	}
}

// R3: what is told is memory of its own, spare room too.
func TestHandedOut(t *testing.T) {
	s := "ab\r\n.\rc\r\n..d\r\n" + xs(40) + "\r\nef\r\n.\r\n"
	m := modelOf(s, 99, 999)
	r := reader(t, 99, 999)
	var told strings.Builder
	var items [][]byte
	for at := 0; at < len(s); at += 3 {
		_, item := r.Take([]byte(s[at:min(at+3, len(s))]))
		told.Write(item.Bytes)
		items = append(items, item.Bytes)
		for i := range item.Bytes[:cap(item.Bytes)] {
			item.Bytes[:cap(item.Bytes)][i] = byte(at)
		}
	}
	if told.String() != m.body {
		t.Fatalf("%q, want %q", told.String(), m.body)
	}
	for i, b := range items {
		for _, c := range b[:cap(b)] {
			if c != byte(3*i) {
				t.Fatalf("item %d shares its memory: %q", i, b)
			}
		}
	}
}
