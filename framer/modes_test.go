package framer_test

import (
	"math"
	"strings"
	"testing"

	"posthorn/api"
	"posthorn/framer"
)

func xs(n int) string { return strings.Repeat("x", n) }

// withLimit is limits of which one, by its number, is another.
func withLimit(l api.Limits, which, n int) api.Limits {
	*[]*int{&l.Line, &l.Text, &l.Message, &l.Rcpts, &l.Errors, &l.Hops}[which] = n
	return l
}

// all is limits that are all alike.
func all(n int) api.Limits {
	return api.Limits{Line: n, Text: n, Message: n, Rcpts: n, Errors: n, Hops: n}
}

// P15.1: each of the six limits at both ends of its bounds, and beyond them.
func TestNew(t *testing.T) {
	within := []int{1, 2, 998, api.MaxLimit - 1, api.MaxLimit}
	beyond := []int{
		0, -1, -2, -998, -api.MaxLimit, api.MaxLimit + 1, api.MaxLimit + 2, 2 * api.MaxLimit, 1 << 32, 1<<32 + 1,
		math.MaxInt32, math.MinInt32, math.MaxInt, math.MinInt,
	}
	for _, others := range within {
		fresh(t, made(t, all(others)))
		for which := range 6 {
			for _, n := range within {
				fresh(t, made(t, withLimit(all(others), which, n)))
			}
			for _, n := range beyond {
				l := withLimit(all(others), which, n)
				if f, e := framer.New(l); f != nil || e != api.ErrArg {
					t.Fatalf("New(%v): %v, %d", l, f, e)
				}
			}
		}
	}
	for _, n := range beyond {
		if f, e := framer.New(all(n)); f != nil || e != api.ErrArg {
			t.Fatalf("New(%v): %v, %d", all(n), f, e)
		}
	}
	if f, e := framer.New(api.Limits{}); f != nil || e != api.ErrArg {
		t.Fatalf("New of no limits: %v, %d", f, e)
	}
}

// fresh asks for a framer in the mode Lines with no line begun.
func fresh(t *testing.T, f *framer.Framer) {
	t.Helper()
	wantMode(t, f, framer.Lines)
	wantHeld(t, f, 0)
	wantTake(t, f, "", 0, none())
	wantMode(t, f, framer.Lines)
	wantChunk(t, f, 0, 0, api.OK)
	wantTake(t, f, "", 0, end(api.OK))
	wantMode(t, f, framer.Lines)
	wantTake(t, f, "\r\n", 2, right(""))
	wantData(t, f, api.OK)
	wantTake(t, f, ".\r\n", 3, end(api.OK))
	wantTake(t, f, "x", 1, none())
	wantHeld(t, f, 1)
}

// P15.1: with New no line is begun: Data or Chunk may be the first call.
func TestNewThenCall(t *testing.T) {
	f := made(t, few)
	wantData(t, f, api.OK)
	wantTake(t, f, "a", 1, body("a"))
	f = made(t, few)
	wantChunk(t, f, 1, 1, api.OK)
	wantTake(t, f, "a", 1, body("a"))
	f = made(t, few)
	wantTake(t, f, "", 0, none())
	wantData(t, f, api.OK)
}

// P15.1: no limit is taken for another one.
func TestLimitsApart(t *testing.T) {
	f := made(t, api.Limits{Line: 3, Text: 5, Message: 9, Rcpts: 1, Errors: 2, Hops: 4})
	wantTake(t, f, "abc\r\n", 5, right("abc"))
	wantTake(t, f, "abcd\r\n", 6, bad(api.ErrLine))
	wantData(t, f, api.OK)
	wantTake(t, f, "abcde\r\n\r\n.\r\n", 12, body("abcde\r\n\r\n"))
	wantTake(t, f, "", 0, end(api.OK))
	wantData(t, f, api.OK)
	wantTake(t, f, "abcdef\r\n.\r\n", 11, body("abcdef\r\n"))
	wantTake(t, f, "", 0, end(api.ErrText))
	wantData(t, f, api.OK)
	wantTake(t, f, "abcde\r\na\r\n.\r\n", 13, body("abcde\r\na\r"))
	wantTake(t, f, "", 0, end(api.ErrBig))
	// Of a chunk no limit is asked.
	wantChunk(t, f, 99, 99, api.OK)
	wantTake(t, f, xs(99), 99, body(xs(99)))
	wantTake(t, f, "", 0, end(api.OK))
	wantTake(t, f, "abc\r\n", 5, right("abc"))
}

// place is a way into a place at which neither Data nor Chunk may be asked for, and what comes behind it.
type place struct {
	name string
	lead func(t *testing.T, f *framer.Framer)
	mode int
	held int
	next string
	n    int
	item api.Item
}

// takes is a way into a place by these bytes, of which nothing but ItemNone comes.
func takes(s string) func(*testing.T, *framer.Framer) {
	return func(t *testing.T, f *framer.Framer) {
		t.Helper()
		wantTake(t, f, s, len(s), none())
	}
}

// inBody is a way into a body by these bytes.
func inBody(s string, want api.Item) func(*testing.T, *framer.Framer) {
	return func(t *testing.T, f *framer.Framer) {
		t.Helper()
		wantData(t, f, api.OK)
		wantTake(t, f, s, len(s), want)
	}
}

// inChunk is a way into a chunk by these bytes.
func inChunk(n, room int64, s string, want api.Item) func(*testing.T, *framer.Framer) {
	return func(t *testing.T, f *framer.Framer) {
		t.Helper()
		wantChunk(t, f, n, room, api.OK)
		wantTake(t, f, s, len(s), want)
	}
}

func busyPlaces() []place {
	return []place{
		{"a letter", takes("a"), framer.Lines, 1, "\r\n", 2, right("a")},
		{"a byte above 127", takes("\xff"), framer.Lines, 1, "\r\n", 2, right("\xff")},
		{"a byte 0", takes("\x00"), framer.Lines, 1, "\r\n", 2, right("\x00")},
		{"a CR", takes("\r"), framer.Lines, 1, "\n", 1, right("")},
		{"an LF", takes("\n"), framer.Lines, 0, "\r\n", 2, bad(api.ErrBare)},
		{"two CRs", takes("\r\r"), framer.Lines, 1, "\n", 1, bad(api.ErrBare)},
		{"a CR and a letter", takes("\ra"), framer.Lines, 0, "\r\n", 2, bad(api.ErrBare)},
		{"a line and its CR", takes("ab\r"), framer.Lines, 3, "\n", 1, right("ab")},
		{"as many bytes as a line has", takes(xs(10)), framer.Lines, 10, "\r\n", 2, right(xs(10))},
		{"one more", takes(xs(11)), framer.Lines, 0, "\r\n", 2, bad(api.ErrLine)},
		{"far more", takes(xs(9999)), framer.Lines, 0, "\r\n", 2, bad(api.ErrLine)},
		{"far more and a CR", takes(xs(9999) + "\r"), framer.Lines, 1, "\n", 1, bad(api.ErrLine)},
		{"a body of no bytes", inBody("", none()), framer.Data, 0, ".\r\n", 3, end(api.OK)},
		{"a body", inBody("a", body("a")), framer.Data, 0, "b", 1, body("b")},
		{"a body's line", inBody("a\r\n", body("a\r\n")), framer.Data, 0, ".\r\n", 3, end(api.OK)},
		{"a body's dot", inBody(".", none()), framer.Data, 1, "\r\n", 2, end(api.OK)},
		{"a body's dot and CR", inBody("a\r\n.\r", body("a\r\n")), framer.Data, 2, "\n", 1, end(api.OK)},
		{"a body whose end waits", inBody("a\r\n.\r\n", body("a\r\n")), framer.Data, 0, "x", 0, end(api.OK)},
		{"a chunk of no octets", inChunk(1, 1, "", none()), framer.Chunk, 0, "x", 1, body("x")},
		{"a chunk", inChunk(3, 9, "a", body("a")), framer.Chunk, 0, "bcd", 2, body("bc")},
		{"a chunk at its room", inChunk(3, 1, "a", body("a")), framer.Chunk, 0, "bcd", 2, end(api.OK)},
		{"a chunk beyond its room", inChunk(3, 0, "ab", none()), framer.Chunk, 0, "cd", 1, end(api.OK)},
		{"a chunk whose end waits", inChunk(2, 2, "ab", body("ab")), framer.Chunk, 0, "x", 0, end(api.OK)},
		{"a chunk beyond its room, whose end waits", inChunk(2, 1, "ab", body("a")), framer.Chunk, 0, "x", 0, end(api.OK)},
	}
}

// P15.3: Data and Chunk where they may not be asked for: which error, and that nothing has changed.
func TestBusy(t *testing.T) {
	calls := []struct {
		ask  func(f *framer.Framer) api.Errno
		want api.Errno
	}{
		{(*framer.Framer).Data, api.ErrState},
		{func(f *framer.Framer) api.Errno { return f.Chunk(0, 0) }, api.ErrState},
		{func(f *framer.Framer) api.Errno { return f.Chunk(1, 1) }, api.ErrState},
		{func(f *framer.Framer) api.Errno { return f.Chunk(math.MaxInt64, math.MaxInt64) }, api.ErrState},
		{func(f *framer.Framer) api.Errno { return f.Chunk(-1, 0) }, api.ErrArg},
		{func(f *framer.Framer) api.Errno { return f.Chunk(0, -1) }, api.ErrArg},
		{func(f *framer.Framer) api.Errno { return f.Chunk(math.MinInt64, math.MaxInt64) }, api.ErrArg},
		{func(f *framer.Framer) api.Errno { return f.Chunk(math.MaxInt64, math.MinInt64) }, api.ErrArg},
	}
	for _, p := range busyPlaces() {
		for i, c := range calls {
			f := made(t, few)
			p.lead(t, f)
			for range 2 {
				if e := c.ask(f); e != c.want {
					t.Fatalf("behind %s: call %d: %d, want %d", p.name, i, e, c.want)
				}
				wantMode(t, f, p.mode)
				wantHeld(t, f, p.held)
			}
			wantTake(t, f, p.next, p.n, p.item)
		}
	}
}

// P15.3: where no line is begun, the errors of Chunk leave it so, and all that may be is OK.
func TestFree(t *testing.T) {
	leads := []func(f *framer.Framer){
		func(*framer.Framer) {},
		func(f *framer.Framer) { f.Take(nil) },
		func(f *framer.Framer) { f.Take([]byte("ab\r\n")) },
		func(f *framer.Framer) { f.Take([]byte("ab\r\nc")) },
		func(f *framer.Framer) { f.Take([]byte("\r\n")); f.Take(nil) },
		func(f *framer.Framer) { f.Take([]byte("a\nb\r\n")) },
		func(f *framer.Framer) { f.Take([]byte(xs(99) + "\r\n")) },
		func(f *framer.Framer) { f.Take([]byte("ab")); f.Take([]byte("\r")); f.Take([]byte("\n")) },
		func(f *framer.Framer) { f.Data(); f.Take([]byte(".\r\nabc")) },
		func(f *framer.Framer) { f.Data(); f.Take([]byte("a\r\n.\r\nabc")); f.Take([]byte("abc")) },
		func(f *framer.Framer) { f.Data(); f.Take([]byte("a\n\r\n.\r\n")); f.Take(nil) },
		func(f *framer.Framer) { f.Chunk(0, 0); f.Take([]byte("abc")) },
		func(f *framer.Framer) { f.Chunk(2, 2); f.Take([]byte("a\rb")); f.Take([]byte("b")) },
		func(f *framer.Framer) { f.Chunk(2, 0); f.Take([]byte("a\rb")) },
	}
	for i, lead := range leads {
		for _, c := range [][2]int64{{-1, 0}, {0, -1}, {-1, -1}, {math.MinInt64, 1}, {1, math.MinInt64}, {math.MinInt64, math.MinInt64}} {
			f := made(t, few)
			lead(f)
			wantChunk(t, f, c[0], c[1], api.ErrArg)
			wantMode(t, f, framer.Lines)
			wantHeld(t, f, 0)
			wantTake(t, f, "c\r\n", 3, right("c"))
		}
		f := made(t, few)
		lead(f)
		if e := f.Data(); e != api.OK || f.Mode() != framer.Data || f.Held() != 0 {
			t.Fatalf("behind lead %d: Data: %d, Mode %d", i, e, f.Mode())
		}
		wantTake(t, f, "\n.\r\n", 4, body("\n.\r\n"))
		for _, c := range [][2]int64{{0, 0}, {0, 1}, {1, 0}, {1, 1}, {math.MaxInt64, math.MaxInt64}, {math.MaxInt64, 0}, {0, math.MaxInt64}} {
			f := made(t, few)
			lead(f)
			if e := f.Chunk(c[0], c[1]); e != api.OK || f.Mode() != framer.Chunk || f.Held() != 0 {
				t.Fatalf("behind lead %d: Chunk(%d, %d): %d, Mode %d", i, c[0], c[1], e, f.Mode())
			}
		}
	}
}

// P15.2, P15.3: n and room as great as they may be.
func TestGreatestChunk(t *testing.T) {
	const most = math.MaxInt64
	f := made(t, few)
	wantChunk(t, f, most, most, api.OK)
	for range 3 {
		wantTake(t, f, "\r\n.\r\n", 5, body("\r\n.\r\n"))
		wantTake(t, f, "", 0, none())
		wantMode(t, f, framer.Chunk)
	}
	f = made(t, few)
	wantChunk(t, f, most, 0, api.OK)
	wantTake(t, f, xs(1<<20), 1<<20, none())
	wantTake(t, f, "\r\n.\r\n", 5, none())
	f = made(t, few)
	wantChunk(t, f, 2, most, api.OK)
	wantTake(t, f, "abc", 2, body("ab"))
	wantTake(t, f, "c", 0, end(api.OK))
	f = made(t, few)
	wantChunk(t, f, 0, most, api.OK)
	wantTake(t, f, "c", 0, end(api.OK))
	for _, n := range []int64{1<<31 - 1, 1 << 31, 1<<32 - 1, 1 << 32, 1<<32 + 1} {
		f = made(t, few)
		wantChunk(t, f, n, n, api.OK)
		wantTake(t, f, "abc", 3, body("abc"))
		wantMode(t, f, framer.Chunk)
		f = made(t, few)
		wantChunk(t, f, n, 2, api.OK)
		wantTake(t, f, "abc", 3, body("ab"))
		wantTake(t, f, "d", 1, none())
		f = made(t, few)
		wantChunk(t, f, 2, n, api.OK)
		wantTake(t, f, "abc", 2, body("ab"))
		wantTake(t, f, "c", 0, end(api.OK))
	}
}

// P15.3: what an earlier body or chunk was does not count for the next one.
func TestEachAnew(t *testing.T) {
	f := made(t, few)
	for range 3 {
		wantData(t, f, api.OK)
		wantTake(t, f, "\xff\n"+xs(30)+"\r\n.\r\n", 37, body("\xff\n"+xs(18)))
		wantTake(t, f, "", 0, highEnd(api.ErrBare))
		wantData(t, f, api.OK)
		wantTake(t, f, xs(10)+"\r\n"+xs(6)+"\r\n.\r\n", 23, body(xs(10)+"\r\n"+xs(6)+"\r\n"))
		wantTake(t, f, "", 0, end(api.OK))
		wantChunk(t, f, 3, 1, api.OK)
		wantTake(t, f, "\xff\r\n", 3, body("\xff"))
		wantTake(t, f, "", 0, end(api.OK))
		wantChunk(t, f, 2, 2, api.OK)
		wantTake(t, f, "abc", 2, body("ab"))
		wantTake(t, f, "c", 0, end(api.OK))
		wantTake(t, f, "a\nb\r\n", 5, bad(api.ErrBare))
		wantTake(t, f, "ab\r\n", 4, right("ab"))
	}
}

// P15.4: Mode and Held behind every byte of lines, bodies and chunks (the walk asks both behind each piece).
func TestModeAndHeld(t *testing.T) {
	const stream = "ab\r\n" + "\n\r\n" + "a long line comes\r" + "\n" + "\r\r\r\n" + "..a\r\n.\rb\r\n.\r\n" + "\r.\r\nab" + "\n\r\n" + ".\r\n" + "QUIT\r\n" + "ab"
	plan := []call{lines(), lines(), lines(), lines(), data(), chunk(6, 3), lines(), data(), lines(), lines()}
	w := check(t, few, stream, plan, everyPlace(stream)...)
	want := []api.Item{right("ab"), bad(api.ErrBare), bad(api.ErrLine), bad(api.ErrBare), body(".a\r\n\rb\r\n"), end(api.ErrBare), body("\r.\r"), end(api.OK), bad(api.ErrBare), end(api.OK), right("QUIT")}
	wantItems(t, w.items, want)

	f := made(t, few)
	for i, c := range "abc\r" {
		wantTake(t, f, string(c), 1, none())
		for range 3 {
			wantHeld(t, f, i+1)
			wantMode(t, f, framer.Lines)
		}
	}
	wantTake(t, f, "\n", 1, right("abc"))
	wantHeld(t, f, 0)
	wantData(t, f, api.OK)
	for _, c := range []struct {
		b    string
		held int
		want api.Item
	}{
		{".", 1, none()}, {"\r", 2, none()}, {"a", 0, body("\ra")}, {"\r", 0, body("\r")}, {"\n", 0, body("\n")}, {".", 1, none()}, {".", 0, body(".")},
		{"\r\n", 0, body("\r\n")}, {".", 1, none()}, {"\r", 2, none()},
	} {
		wantTake(t, f, c.b, len(c.b), c.want)
		wantHeld(t, f, c.held)
		wantMode(t, f, framer.Data)
	}
	wantTake(t, f, "\n", 1, end(api.ErrBare))
	wantHeld(t, f, 0)
	wantMode(t, f, framer.Lines)
	wantChunk(t, f, 4, 2, api.OK)
	for _, c := range []struct {
		b    string
		want api.Item
	}{{".", body(".")}, {"\r", body("\r")}, {"\r", none()}} {
		wantTake(t, f, c.b, 1, c.want)
		wantHeld(t, f, 0)
		wantMode(t, f, framer.Chunk)
	}
	wantTake(t, f, "\n", 1, end(api.OK))
	wantHeld(t, f, 0)
	wantMode(t, f, framer.Lines)
}

// wantItems holds items against others.
func wantItems(t *testing.T, items, want []api.Item) {
	t.Helper()
	for i, x := range items {
		if i >= len(want) || !same(x, want[i]) {
			t.Fatalf("item %d of %d: %s, want %d", i, len(items), show(x), len(want))
		}
	}
	if len(items) != len(want) {
		t.Fatalf("%d items, want %d", len(items), len(want))
	}
}

// P15.3, P15.4, R1: no framer, and one that New did not make.
func TestNoFramer(t *testing.T) {
	var no *framer.Framer
	failed, _ := framer.New(api.Limits{})
	for _, f := range []*framer.Framer{no, failed, new(framer.Framer), {}} {
		for range 2 {
			for _, b := range []string{"", "a", "\r\n", "a\r\n", "\n", "\r", ".\r\n", xs(99)} {
				wantTake(t, f, b, 0, none())
				wantMode(t, f, 0)
				wantHeld(t, f, 0)
			}
			if n, item := f.Take(nil); n != 0 || !same(item, none()) {
				t.Fatalf("Take(nil): %d, %s", n, show(item))
			}
			wantData(t, f, api.ErrNil)
			for _, c := range [][2]int64{{0, 0}, {1, 1}, {-1, 0}, {0, -1}, {math.MinInt64, math.MinInt64}, {math.MaxInt64, math.MaxInt64}} {
				wantChunk(t, f, c[0], c[1], api.ErrNil)
			}
			wantMode(t, f, 0)
		}
	}
}
