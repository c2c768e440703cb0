package framer_test

import (
	"math"
	"runtime"
	"slices"
	"strings"
	"testing"

	"posthorn/api"
	"posthorn/framer"
)

// P15.2: lines, right and bad, of no bytes, of one and of many, cut in every way.
func TestTakeLines(t *testing.T) {
	l := limits(3, 9, 9)
	for _, c := range []struct {
		s    string
		want []api.Item
	}{
		{"", nil},
		{"a", nil},
		{"\r\n", []api.Item{right("")}},
		{"a\r\n", []api.Item{right("a")}},
		{"abc\r\n", []api.Item{right("abc")}},
		{"abcd\r\n", []api.Item{bad(api.ErrLine)}},
		{"abcdefgh\r\n\r\n", []api.Item{bad(api.ErrLine), right("")}},
		{"a\nb\r\nc\r\n", []api.Item{bad(api.ErrBare), right("c")}},
		{"a\rb\r\nc\r\n", []api.Item{bad(api.ErrBare), right("c")}},
		{"\r\r\n\n\r\n", []api.Item{bad(api.ErrBare), bad(api.ErrBare)}},
		{"abcde\nf\r\n", []api.Item{bad(api.ErrBare)}},
		{".\r\n..\r\n", []api.Item{right("."), right("..")}},
		{"\x00\xff\r\n", []api.Item{right("\x00\xff")}},
		{"ab\r\ncd\r", []api.Item{right("ab")}},
	} {
		eachCut(len(c.s), func(cuts []int) {
			wantItems(t, check(t, l, c.s, nil, cuts...).items, c.want)
			wantItems(t, checkOnce(t, l, c.s, nil, cuts...).items, c.want)
		})
	}
}

// P15.2: bodies, right and wrong, cut in every way.
func TestTakeBodies(t *testing.T) {
	l := limits(9, 3, 8)
	for _, c := range []struct {
		s    string
		want []api.Item
	}{
		{"", nil},
		{".\r\n", []api.Item{end(api.OK)}},
		{"\r\n.\r\n", []api.Item{body("\r\n"), end(api.OK)}},
		{"a\r\n.\r\nb\r\n", []api.Item{body("a\r\n"), end(api.OK), right("b")}},
		{"..\r\n.a\r\n.\r\n", []api.Item{body(".\r\na\r\n"), end(api.OK)}},
		{"\xff\r\n.\r\n", []api.Item{body("\xff\r\n"), highEnd(api.OK)}},
		{"a\n.\n\r\n.\r\n", []api.Item{body("a\n.\n\r\n"), end(api.ErrBare)}},
		{".\r.\r\n.\r\n\n", []api.Item{body("\r.\r\n"), end(api.ErrBare)}},
		{"abcd\r\n.\r\n\r\n", []api.Item{body("abcd\r\n"), end(api.ErrText), right("")}},
		{"abc\r\nd\r\n.\r\n", []api.Item{body("abc\r\nd\r\n"), end(api.OK)}},
		{"abc\r\nde\r\n.\r\n", []api.Item{body("abc\r\nde\r"), end(api.ErrBig)}},
		{".\r\n.\r\n", []api.Item{end(api.OK), right(".")}},
	} {
		eachCut(len(c.s), func(cuts []int) {
			wantItems(t, check(t, l, c.s, []call{data()}, cuts...).items, c.want)
			wantItems(t, checkOnce(t, l, c.s, []call{data()}, cuts...).items, c.want)
		})
	}
}

// P15.2: chunks of no octets, one and many; room 0, one less, as many, one more and far more; cut in every way, so that
// pieces end ahead of the room's and the chunk's end, at them and behind them.
func TestTakeChunks(t *testing.T) {
	const s = "a\r\n.\xff\r\nbc"
	for n := range int64(len(s) + 2) {
		for _, room := range []int64{0, 1, n / 2, n - 1, n, n + 1, n + 99, math.MaxInt64} {
			if room < 0 {
				continue
			}
			told := s[:min(room, n, int64(len(s)))]
			eachCut(len(s), func(cuts []int) {
				for _, w := range []*walk{check(t, few, s, []call{chunk(n, room)}, cuts...), checkOnce(t, few, s, []call{chunk(n, room)}, cuts...)} {
					if told != "" && (len(w.items) == 0 || string(w.items[0].Bytes) != told) {
						t.Fatalf("Chunk(%d, %d), cut at %d: %v", n, room, cuts, w.items)
					}
				}
			})
		}
	}
}

// P15.2: where a chunk ends: with its last octet, if that is beyond its room; else with the next Take, which takes nothing.
func TestChunkEnds(t *testing.T) {
	for _, c := range []struct {
		n, room int64
		b       string
		took    int
		item    api.Item
		ends    bool // with this Take
	}{
		{0, 0, "", 0, end(api.OK), true}, {0, 0, "abc", 0, end(api.OK), true}, {0, 9, "abc", 0, end(api.OK), true},
		{1, 0, "", 0, none(), false}, {1, 0, "a", 1, end(api.OK), true}, {1, 0, "abc", 1, end(api.OK), true},
		{3, 0, "ab", 2, none(), false}, {3, 0, "abc", 3, end(api.OK), true}, {3, 0, "abcd", 3, end(api.OK), true},
		{1, 1, "", 0, none(), false}, {1, 1, "a", 1, body("a"), false}, {1, 9, "abc", 1, body("a"), false},
		{3, 1, "a", 1, body("a"), false}, {3, 1, "ab", 2, body("a"), false}, {3, 1, "abc", 3, body("a"), false}, {3, 1, "abcd", 3, body("a"), false},
		{3, 3, "abc", 3, body("abc"), false}, {3, 4, "abcd", 3, body("abc"), false}, {3, 2, "abcd", 3, body("ab"), false},
	} {
		f := made(t, few)
		wantChunk(t, f, c.n, c.room, api.OK)
		wantTake(t, f, c.b, c.took, c.item)
		if c.ends {
			wantMode(t, f, framer.Lines)
			wantTake(t, f, "x\r\n", 3, right("x"))
			continue
		}
		wantMode(t, f, framer.Chunk)
		if left := int(c.n) - c.took; left > 0 {
			rest := max(int(c.room)-c.took, 0)
			if rest == 0 {
				wantTake(t, f, xs(left+1), left, end(api.OK))
				wantMode(t, f, framer.Lines)
				continue
			}
			wantTake(t, f, xs(left+1), left, body(xs(min(rest, left))))
		}
		wantMode(t, f, framer.Chunk)
		wantTake(t, f, "x", 0, end(api.OK))
		wantMode(t, f, framer.Lines)
		wantTake(t, f, "x\r\n", 3, right("x"))
	}
	// The last octets are told by one piece, or stand beyond the room in another.
	f := made(t, few)
	wantChunk(t, f, 4, 2, api.OK)
	wantTake(t, f, "a", 1, body("a"))
	wantTake(t, f, "bc", 2, body("b"))
	wantTake(t, f, "", 0, none())
	wantTake(t, f, "de", 1, end(api.OK))
}

// P15.2: of no bytes in each mode, however they are handed in.
func TestTakeNoBytes(t *testing.T) {
	for _, b := range [][]byte{nil, {}, make([]byte, 0, 9), []byte("\r\n.\r\n")[:0]} {
		take := func(f *framer.Framer, want api.Item) {
			t.Helper()
			if n, item := f.Take(b); n != 0 || !same(item, want) {
				t.Fatalf("Take of no bytes: %d, %s, want %s", n, show(item), show(want))
			}
		}
		f := made(t, few)
		take(f, none())
		wantTake(t, f, "ab\r", 3, none())
		take(f, none())
		wantTake(t, f, "\n", 1, right("ab"))
		take(f, none())
		wantData(t, f, api.OK)
		take(f, none())
		wantMode(t, f, framer.Data)
		wantTake(t, f, "a\r\n.\r", 5, body("a\r\n"))
		take(f, none())
		wantTake(t, f, ".\r\n", 3, body("\r.\r\n"))
		take(f, none())
		wantTake(t, f, "b\r\n.\r\n", 6, body("b\r\n"))
		take(f, end(api.ErrBare))
		wantMode(t, f, framer.Lines)
		take(f, none())
		wantChunk(t, f, 2, 1, api.OK)
		take(f, none())
		wantTake(t, f, "a", 1, body("a"))
		take(f, none())
		wantTake(t, f, "b", 1, end(api.OK))
		take(f, none())
		wantChunk(t, f, 1, 1, api.OK)
		wantTake(t, f, "a", 1, body("a"))
		take(f, end(api.OK))
		take(f, none())
		wantChunk(t, f, 0, 1, api.OK)
		take(f, end(api.OK))
		wantMode(t, f, framer.Lines)
		take(f, none())
	}
}

// P15.2: behind a body and a chunk a new line begins: what stands ahead of its first byte does not count.
func TestLineBehind(t *testing.T) {
	for _, c := range []struct {
		s    string
		want []api.Item
	}{
		{"\r\n", []api.Item{right("")}},
		{"\n\r\n", []api.Item{bad(api.ErrBare)}},
		{"\nab\r\nc\r\n", []api.Item{bad(api.ErrBare), right("c")}},
		{"ab\r\n", []api.Item{right("ab")}},
		{".\r\n", []api.Item{right(".")}},
		{xs(10) + "\r\n", []api.Item{right(xs(10))}},
		{xs(11) + "\r\n", []api.Item{bad(api.ErrLine)}},
	} {
		for _, ahead := range []string{"\r", "a\r", "\n", "\r\n", "a\xff", xs(99) + "\r"} {
			n := int64(len(ahead))
			for _, room := range []int64{0, 1, n, n + 1} {
				s := ahead + c.s
				for _, cuts := range [][]int{nil, {len(ahead)}, everyPlace(s)} {
					items := check(t, few, s, []call{chunk(n, room)}, cuts...).items
					if room > 0 {
						items = items[1:]
					}
					wantItems(t, items[1:], c.want)
				}
			}
		}
		for _, ahead := range []string{".\r\n", "a\r\n.\r\n", "a\rb\r\n.\r\n"} {
			s := ahead + c.s
			for _, cuts := range [][]int{nil, {len(ahead)}, everyPlace(s)} {
				items := check(t, few, s, []call{data()}, cuts...).items
				wantItems(t, items[len(items)-len(c.want):], c.want)
			}
		}
	}
}

// P15.2: in a body and in a chunk lines are no lines; in a chunk a dot ends nothing.
func TestNothingSlips(t *testing.T) {
	f := made(t, few)
	wantChunk(t, f, 12, 12, api.OK)
	wantTake(t, f, "QUIT\r\n.\r\n\xffab\r\n", 12, body("QUIT\r\n.\r\n\xffab"))
	wantTake(t, f, "\r\n", 0, end(api.OK))
	wantData(t, f, api.OK)
	wantTake(t, f, "QUIT\r\n\n.\n", 9, body("QUIT\r\n\n.\n"))
	wantTake(t, f, "\r.\r\n", 4, body("\r.\r\n"))
	wantTake(t, f, ".\r\nQUIT\r\n", 3, end(api.ErrBare))
	wantTake(t, f, "QUIT\r\n", 6, right("QUIT"))
}

// P15.2: every byte in each mode.
func TestEveryByte(t *testing.T) {
	for c := range 256 {
		x := string([]byte{byte(c)})
		for _, s := range []string{x, x + "\r\n", "a" + x + "\r\n", "." + x + "\r\n.\r\n", "\r" + x + "\r\n.\r\n", "a\r\n" + x + "\r\n.\r\nb\r\n", x + "\r\n.\r\n" + x + "\r\n"} {
			for _, plan := range [][]call{nil, {data()}, {chunk(1, 1)}, {chunk(2, 1)}, {chunk(1, 0), data()}, {data(), chunk(1, 2)}} {
				check(t, few, s, plan)
				check(t, few, s, plan, everyPlace(s)...)
				checkOnce(t, few, s, plan, everyPlace(s)...)
			}
		}
	}
}

// P15.2, P15.9: the greatest lines and bodies that may be.
func TestGreatest(t *testing.T) {
	const most = api.MaxLimit
	f := made(t, all(most))
	s := xs(most)
	wantTake(t, f, s, most, none())
	wantHeld(t, f, most)
	wantTake(t, f, "\r\n", 2, right(s))
	wantTake(t, f, s+"x", most+1, none())
	if f.Held() > most+8 {
		t.Fatalf("Held %d", f.Held())
	}
	wantData(t, f, api.ErrState)
	wantTake(t, f, "\r\n", 2, bad(api.ErrLine))
	wantData(t, f, api.OK)
	wantTake(t, f, s[:most-2]+"\r\n.\r\n", most+3, body(s[:most-2]+"\r\n"))
	wantTake(t, f, "", 0, end(api.OK))
	wantData(t, f, api.OK)
	wantTake(t, f, s+"\r\n.\r\n", most+5, body(s))
	wantTake(t, f, "", 0, end(api.ErrBig))
	wantChunk(t, f, most+1, most+1, api.OK)
	wantTake(t, f, s+"xy", most+1, body(s+"x"))
	wantTake(t, f, "y", 0, end(api.OK))
}

// P15.9: what comes, however much of it, is not kept: neither of a line that is bad, nor of a body, nor of a chunk.
func TestNotKept(t *testing.T) {
	piece := []byte(xs(1 << 16))
	for _, lead := range []func(f *framer.Framer){
		func(*framer.Framer) {},
		func(f *framer.Framer) { f.Data() },
		func(f *framer.Framer) { f.Chunk(math.MaxInt64, math.MaxInt64) },
		func(f *framer.Framer) { f.Chunk(math.MaxInt64, 0) },
	} {
		f := made(t, limits(512, 998, api.MaxLimit))
		lead(f)
		before := heap()
		for range 1 << 9 {
			if n, _ := f.Take(piece); n != len(piece) || f.Held() > 512+8 {
				t.Fatalf("Take: %d, Held %d", n, f.Held())
			}
		}
		if grown := heap() - before; grown > 1<<20 {
			t.Fatalf("%d bytes are kept", grown)
		}
		runtime.KeepAlive(f)
	}
}

// heap is how many bytes are kept by anybody.
func heap() int64 {
	runtime.GC()
	var m runtime.MemStats
	runtime.ReadMemStats(&m)
	return int64(m.HeapAlloc)
}

// R2: framers do not see one another.
func TestSideBySide(t *testing.T) {
	a, b, c := made(t, few), made(t, few), made(t, few)
	wantData(t, a, api.OK)
	wantChunk(t, b, 4, 3, api.OK)
	wantTake(t, c, "ab\r", 3, none())
	wantTake(t, a, "a\r\n.", 4, body("a\r\n"))
	wantTake(t, b, "\n", 1, body("\n"))
	wantTake(t, c, "\n", 1, right("ab"))
	wantTake(t, a, "\r\n", 2, end(api.OK))
	wantMode(t, a, framer.Lines)
	wantMode(t, b, framer.Chunk)
	wantTake(t, b, "abc", 3, body("ab"))
	wantTake(t, a, "\n\r\n", 3, bad(api.ErrBare))
	wantChunk(t, c, 1, 0, api.OK)
	wantTake(t, b, "", 0, end(api.OK))
	wantTake(t, c, "x", 1, end(api.OK))
	wantTake(t, b, "x\r\n", 3, right("x"))
}

// R3: what is handed in stays as it is, with the room behind its end, which is not looked at; and it is not kept.
func TestHandedIn(t *testing.T) {
	f := made(t, few)
	const room = "\n\r\n.\r\nroom"
	take := func(s string, n int, want api.Item) {
		t.Helper()
		given := []byte(s + room)
		got, item := f.Take(given[:len(s)])
		if got != n || string(given) != s+room {
			t.Fatalf("Take(%q): %d; %q", s, got, given)
		}
		for i := range given {
			given[i] = '#'
		}
		if !same(item, want) {
			t.Fatalf("Take(%q): %s, want %s", s, show(item), show(want))
		}
	}
	take("a", 1, none())
	take("b\r", 2, none())
	take("\nc", 1, right("ab"))
	wantData(t, f, api.OK)
	take("a\r\n.", 4, body("a\r\n"))
	take("\r", 1, none())
	take("b\r\n", 3, body("\rb\r\n"))
	take(".\r\nc", 3, end(api.ErrBare))
	wantChunk(t, f, 5, 3, api.OK)
	take("ab", 2, body("ab"))
	take("cd", 2, body("c"))
	take("ef", 1, end(api.OK))
	wantChunk(t, f, 2, 2, api.OK)
	take("abc", 2, body("ab"))
	take("c", 0, end(api.OK))
}

// R3: what is told is memory of its own, spare room too: what is written there is seen in no later answer.
func TestHandedOut(t *testing.T) {
	f := made(t, few)
	given := []byte("abcdefgh")
	wantChunk(t, f, 6, 5, api.OK)
	_, first := f.Take(given[:2])
	spoil(first.Bytes)
	n, second := f.Take(given[2:])
	if n != 4 || !same(second, body("cde")) || string(given) != "abcdefgh" {
		t.Fatalf("Take: %d, %s; %q", n, show(second), given)
	}
	spoil(second.Bytes)
	if string(given) != "abcdefgh" {
		t.Fatalf("what is told is what was handed in: %q", given)
	}
	wantTake(t, f, "gh", 0, end(api.OK))
	wantData(t, f, api.OK)
	for range 2 {
		given = []byte("a\r\n..b\r\n")
		_, item := f.Take(given)
		if !same(item, body("a\r\n.b\r\n")) {
			t.Fatalf("%s", show(item))
		}
		spoil(item.Bytes)
		if string(given) != "a\r\n..b\r\n" {
			t.Fatalf("what is told is what was handed in: %q", given)
		}
	}
	wantTake(t, f, ".\r\n", 3, end(api.OK))
	wantTake(t, f, "ab\r\n", 4, right("ab"))
}

// spoil writes over bytes, and over the room behind them.
func spoil(b []byte) {
	b = b[:cap(b)]
	for i := range b {
		b[i] = '#'
	}
}

// R2, R3: items of which the caller keeps the bytes stay as they were told.
func TestToldStays(t *testing.T) {
	f := made(t, limits(10, 10, 1000))
	var told [][]byte
	var want []string
	wantChunk(t, f, 1000, 1000, api.OK)
	for i := range 100 {
		s := strings.Repeat(string(rune('a'+i%26)), 10)
		_, item := f.Take([]byte(s))
		told, want = append(told, item.Bytes), append(want, s)
	}
	for i, s := range want {
		if string(told[i]) != s {
			t.Fatalf("piece %d is %q, was %q", i, told[i], s)
		}
	}
	if got := string(slices.Concat(told...)); got != strings.Join(want, "") {
		t.Fatalf("%q", got)
	}
}
