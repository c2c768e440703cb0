package reply_test

import (
	"slices"
	"strings"
	"testing"

	"posthorn/api"
	"posthorn/reply"
)

// all is what Next tells until it tells nothing.
func all(r *reply.Reader) (told []api.Reply) {
	for {
		x, ok := r.Next()
		if !ok {
			return told
		}
		told = append(told, x)
	}
}

// checkRead feeds all of s, in these pieces, and holds what is told against the words: what Feed, Err and Held
// answer behind each piece, and what Next tells at the end, or behind each piece, too.
func checkRead(t *testing.T, s string, often bool, ends ...int) {
	t.Helper()
	r := reply.New()
	var told []api.Reply
	begin := 0
	for _, end := range append(ends, len(s)) {
		replies, at, held := modelRead(s[:end])
		want := api.OK
		if at >= 0 {
			want = api.ErrReply
		}
		e := r.Feed([]byte(s[begin:end]))
		if e != want || r.Err() != want || r.Held() != held {
			t.Fatalf("%q, cut at %d, up to %d: Feed %d, Err %d, Held %d, want %d, %d", s, ends, end, e, r.Err(), r.Held(), want, held)
		}
		if often {
			told = append(told, all(r)...)
			if !slices.EqualFunc(told, replies, same) {
				t.Fatalf("%q, cut at %d, up to %d: %#v, want %#v", s, ends, end, told, replies)
			}
		}
		begin = end
	}
	told = append(told, all(r)...)
	if replies, _, _ := modelRead(s); !slices.EqualFunc(told, replies, same) {
		t.Fatalf("%q, cut at %d: %#v, want %#v", s, ends, told, replies)
	}
}

// everyPlace is all ends of pieces of one byte each but the last one.
func everyPlace(s string) (ends []int) {
	for i := 1; i < len(s); i++ {
		ends = append(ends, i)
	}
	return ends
}

// streams are bytes of right rows.
var streams = []string{
	"", "220 x\r\n", "250\r\n", "250 \r\n", "250-\r\n250\r\n", "250-a\r\n250-b\r\n250 c\r\n", "354 go\r\n221 2.0.0 bye\r\n",
	"250-2.0.0 a\r\n250-2.0.0\r\n250 2.0.0  b\r\n", "250-2.0.0 a\r\n250-\r\n250 2.0.0 b\r\n", "250-2.0.0 a\r\n250\r\n", "559 5.999.999 \xc3\xa9\t\xff~ \r\n200\r\n",
	"550 2.0.0 x\r\n354 3.0.0 x\r\n", "250--a\r\n250 -\r\n", "250  a\r\n",
}

// P12.3, P12.4, P12.5: whole replies.
func TestWholeReplies(t *testing.T) {
	for _, c := range []struct {
		s    string
		want []api.Reply
	}{
		{"220 mx.example ready\r\n", []api.Reply{of(220, status(), "mx.example ready")}},
		{"250\r\n", []api.Reply{of(250, status(), "")}},
		{"250 \r\n", []api.Reply{of(250, status(), "")}},
		{"250-a\r\n250-b\r\n250 c\r\n", []api.Reply{of(250, status(), "a", "b", "c")}},
		{"250-a\r\n250\r\n", []api.Reply{of(250, status(), "a", "")}},
		{"250-\r\n250-\r\n250 \r\n", []api.Reply{of(250, status(), "", "", "")}},
		{"250  a \r\n", []api.Reply{of(250, status(), " a ")}},
		{"250 -\r\n250--\r\n250 x\r\n", []api.Reply{of(250, status(), "-"), of(250, status(), "-", "x")}},
		{"250 2.1.5 ok\r\n", []api.Reply{of(250, status(2, 1, 5), "ok")}},
		{"250 2.1.5\r\n", []api.Reply{of(250, status(2, 1, 5), "")}},
		{"250 2.1.5 \r\n", []api.Reply{of(250, status(2, 1, 5), "")}},
		{"250 2.1.5  x\r\n", []api.Reply{of(250, status(2, 1, 5), " x")}},
		{"250 2.1.5 2.1.5 x\r\n", []api.Reply{of(250, status(2, 1, 5), "2.1.5 x")}},
		{"250 2.1.5\tx\r\n", []api.Reply{of(250, status(), "2.1.5\tx")}},
		{"250-2.1.5 a\r\n250-2.1.5\r\n250 2.1.5 c\r\n", []api.Reply{of(250, status(2, 1, 5), "a", "", "c")}},
		{"250-2.1.5 a\r\n250-\r\n250 2.1.5 c\r\n", []api.Reply{of(250, status(), "2.1.5 a", "", "2.1.5 c")}},
		{"250-2.1.5 a\r\n250\r\n", []api.Reply{of(250, status(), "2.1.5 a", "")}},
		{"250-2.1.5 a\r\n250 2.01.5 c\r\n", []api.Reply{of(250, status(), "2.1.5 a", "2.01.5 c")}},
		{"450 4.999.999 \r\n550 5.1000.0 x\r\n", []api.Reply{of(450, status(4, 999, 999), ""), of(550, status(), "5.1000.0 x")}},
		{"334 dGVzdA==\r\n354 3.0.0 go\r\n", []api.Reply{of(334, status(), "dGVzdA=="), of(354, status(), "3.0.0 go")}},
		{"200 a\r\n559 b\r\n305 c\r\n", []api.Reply{of(200, status(), "a"), of(559, status(), "b"), of(305, status(), "c")}},
		{"550 2.0.0 x\r\n", []api.Reply{of(550, status(), "2.0.0 x")}},
	} {
		r := reader(t, c.s)
		wantState(t, r, api.OK, 0)
		wantNext(t, r, c.want...)
		checkRead(t, c.s, true, everyPlace(c.s)...)
	}
}

// P12.3, P12.7: rows cut at every place, and at every two.
func TestCutAtEveryPlace(t *testing.T) {
	for _, s := range streams {
		checkRead(t, s, false)
		checkRead(t, s, false, everyPlace(s)...)
		checkRead(t, s, true, everyPlace(s)...)
		for i := range len(s) + 1 {
			checkRead(t, s[:i], true)
			for j := i; j <= len(s); j++ {
				checkRead(t, s, true, i, j)
			}
		}
	}
}

// P12.3: every byte at every place of right rows, in the place of the one there, ahead of it, and each byte left out.
func TestEveryByteAtEveryPlace(t *testing.T) {
	for _, s := range streams {
		for i := range len(s) + 1 {
			for _, c := range []byte(everyByte()) {
				other := s[:i] + string([]byte{c}) + s[i:]
				checkRead(t, other, true, i, i+1)
				if i < len(s) {
					other = s[:i] + string([]byte{c}) + s[i+1:]
					checkRead(t, other, true, i, i+1)
				}
			}
			if i < len(s) {
				checkRead(t, s[:i]+s[i+1:], true, i)
			}
		}
	}
}

// P12.3: all short streams out of the bytes that count.
func TestShortStreams(t *testing.T) {
	var grow func(s string, left int)
	grow = func(s string, left int) {
		checkRead(t, s, true, everyPlace(s)...)
		if left == 0 {
			return
		}
		for _, part := range []string{"2", "5", "\r", "\n", "-", " ", "250", "\r\n", "251", "2.0.0"} {
			grow(s+part, left-1)
		}
	}
	grow("", 4)
	for _, ahead := range []string{"250", "250-", "250 ", "250-a\r\n", "250-2.0.0 a\r\n250", "220 x\r\n2"} {
		grow(ahead, 3)
	}
}

// wantWrongAt asks for an error at a place of s, and none ahead of it; nothing behind it is read.
func wantWrongAt(t *testing.T, s string, at int) {
	t.Helper()
	r := reader(t, s[:at])
	told := all(r)
	wantFeed(t, r, s[at:at+1], api.ErrReply)
	for _, behind := range []string{"", "\r\n", "220 x\r\n", s} {
		wantFeed(t, r, behind, api.ErrReply)
		wantState(t, r, api.ErrReply, 0)
		wantNext(t, r)
	}
	r = reader(t)
	wantFeed(t, r, s+"\r\n220 x\r\n", api.ErrReply)
	wantState(t, r, api.ErrReply, 0)
	wantNext(t, r, told...)
}

// P12.3: an error is told at the first byte that shows it, stays, and nothing is read behind it.
func TestWhereItIsWrong(t *testing.T) {
	for _, c := range []struct {
		s  string
		at int
	}{
		{"1", 0}, {"6", 0}, {"x", 0}, {" ", 0}, {"\r\n", 0}, {"\n", 0}, {"\x00", 0}, {"-250", 0},
		{"26", 1}, {"2x", 1}, {"2\r\n", 1}, {"2 ", 1}, {"25x", 2}, {"25\r\n", 2}, {"25 ", 2}, {"25-", 2},
		{"250x", 3}, {"2500", 3}, {"250\t", 3}, {"250\n", 3}, {"250.", 3}, {"250\x00", 3},
		{"250\rx", 4}, {"250\r\r\n", 4}, {"250 a\rb", 6}, {"250 a\r\r\n", 6}, {"250-a\r250", 6}, {"250 a\r ", 6},
		{"250 a\n", 5}, {"250 \n", 4}, {"250-\n", 4}, {"250 a\x00", 5}, {"250 a\x7f", 5}, {"250 a\x08", 5}, {"250 \x1f", 4},
		{"250-a\r\n350", 7}, {"250-a\r\n240", 8}, {"250-a\r\n251", 9}, {"250-a\r\n2\r\n", 8}, {"250-a\r\n\r\n", 7}, {"250-a\r\n250x", 10},
		{"250-a\r\n250-b\r\n251 c", 16}, {"220 x\r\n250-a\r\n220", 15}, {"220 x\r\n2x", 8}, {"220 x\r\n\n", 7}, {"220 x\r\n\r", 7},
	} {
		wantWrongAt(t, c.s, c.at)
	}
}

// P12.3: rows of 510 and 511 bytes, with their line end, each behind another one or not.
func TestLongestRow(t *testing.T) {
	for _, ahead := range []string{"", "250-" + xs(506) + "\r\n", "220 x\r\n"} {
		for _, mark := range []string{" ", "-"} {
			row := ahead + "250" + mark + xs(506)
			for n := len(row) - 2; n <= len(row); n++ {
				checkRead(t, row[:n]+"\r\n250 y\r\n", true, n, n+1, n+2)
			}
			for _, c := range []byte(everyByte()) {
				checkRead(t, row+string([]byte{c})+"\r\n", true, len(row), len(row)+1)
				checkRead(t, row+"\r"+string([]byte{c})+"\r\n", true, len(row), len(row)+1, len(row)+2)
			}
			wantWrongAt(t, row+"x\r\n", len(row))
			wantWrongAt(t, row+"\n", len(row))
			wantWrongAt(t, row+"\rx", len(row)+1)
			r := reader(t, row, "\r", "\n")
			if mark == "-" {
				wantFeed(t, r, "250\r\n", api.OK)
			}
			wantState(t, r, api.OK, 0)
		}
	}
}

// P12.3: 64 and 65 rows; the - of a 64th one is wrong, not what follows it.
func TestMostRows(t *testing.T) {
	for n := 61; n <= 66; n++ {
		ahead := strings.Repeat("250-a\r\n", n)
		checkRead(t, ahead+"250 b\r\n", true)
		checkRead(t, ahead+"250\r\n", true, len(ahead), len(ahead)+3)
		checkRead(t, ahead+"250-b\r\n250 c\r\n", true, everyPlace(ahead)...)
	}
	ahead := strings.Repeat("250-a\r\n", 63)
	wantWrongAt(t, ahead+"250-a\r\n", len(ahead)+3)
	wantWrongAt(t, "220 x\r\n"+ahead+"250-", 7+len(ahead)+3)
	lines := append(slices.Repeat([]string{"a"}, 63), "b")
	wantNext(t, reader(t, ahead+"250 b\r\n"+ahead+"250 b\r\n"), of(250, status(), lines...), of(250, status(), lines...))

	row := "559-" + xs(506) + "\r\n"
	most := strings.Repeat(row, 63) + "559 " + xs(506)
	r := reader(t, most+"\r")
	wantState(t, r, api.OK, 64*512-1)
	wantFeed(t, r, "\n", api.OK)
	wantState(t, r, api.OK, 0)
	wantNext(t, r, of(559, status(), slices.Repeat([]string{xs(506)}, 64)...))
}

// P12.3: rows with another code, each digit of it.
func TestOtherCodes(t *testing.T) {
	for _, ahead := range []string{"250-", "250-a\r\n250-"} {
		for code := 100; code < 700; code++ {
			digits := string([]byte{byte('0' + code/100), byte('0' + code/10%10), byte('0' + code%10)})
			for _, behind := range []string{" b\r\n", "\r\n", "-b\r\n250 c\r\n"} {
				s := ahead + "a\r\n" + digits + behind
				checkRead(t, s, true, everyPlace(s)...)
			}
		}
	}
}

// P12.4: Next in turns with Feed, ahead of and behind an error.
func TestNextInTurns(t *testing.T) {
	a, b, c, d := of(220, status(), "a"), of(250, status(2), "b"), of(354, status(), "c"), of(421, status(4, 3, 2), "d", "e")
	r := reader(t)
	wantNext(t, r)
	wantFeed(t, r, "220 a\r\n250 2.0.0 b\r\n35", api.OK)
	if x, ok := r.Next(); !same(x, a) || !ok {
		t.Fatalf("the first: %#v, %v", x, ok)
	}
	wantState(t, r, api.OK, 2)
	wantFeed(t, r, "4 c\r\n421-4.3.2 d\r\n", api.OK)
	if x, ok := r.Next(); !same(x, b) || !ok {
		t.Fatalf("the second: %#v, %v", x, ok)
	}
	wantState(t, r, api.OK, 13)
	wantNext(t, r, c)
	wantFeed(t, r, "421 4.3.2 e\r\n220 a\r\n250-x", api.OK)
	wantState(t, r, api.OK, 5)
	wantFeed(t, r, "\r\n251", api.ErrReply)
	wantState(t, r, api.ErrReply, 0)
	wantFeed(t, r, "220 a\r\n", api.ErrReply)
	wantNext(t, r, d, a)
	wantState(t, r, api.ErrReply, 0)
	wantFeed(t, r, "", api.ErrReply)
}

// P12.3, P12.5: pieces of no bytes, none of which changes anything.
func TestNoBytes(t *testing.T) {
	for _, s := range []string{"", "2", "250", "250-", "250-a\r", "250-a\r\n", "250 2.0.0 x"} {
		r := reader(t, s, "", "")
		if r.Feed(nil) != api.OK || r.Feed([]byte{}) != api.OK {
			t.Error("Feed of no bytes")
		}
		wantState(t, r, api.OK, len(s))
		wantNext(t, r)
	}
}

// full is a reader with as many replies as may wait, "220 a" first and "221 z" last.
func full(t *testing.T) *reply.Reader {
	t.Helper()
	b := make([]byte, 0, 6<<20)
	b = append(b, "220 a\r\n"...)
	for range api.MaxRing - 2 {
		b = append(b, "250\r\n"...)
	}
	r := reply.New()
	if e := r.Feed(append(b, "221 z\r\n"...)); e != api.OK {
		t.Fatalf("Feed of as many replies as may wait: %d", e)
	}
	return r
}

// P12.3: ErrFull at one reply more than may wait; no byte of that piece is taken, and nothing changes.
func TestOneReplyTooMany(t *testing.T) {
	r := full(t)
	wantState(t, r, api.OK, 0)
	refused := func(held int, pieces ...string) {
		t.Helper()
		for _, s := range pieces {
			wantFeed(t, r, s, api.ErrFull)
			wantState(t, r, api.OK, held)
		}
	}
	refused(0, "250\r\n", "250-a\r\n250 b\r\n", "250\r\n25", "250\r\nx", "250\r\n250\r\n")
	// What makes none whole is taken.
	wantFeed(t, r, "", api.OK)
	wantFeed(t, r, "250-b\r\n250 ", api.OK)
	wantState(t, r, api.OK, 11)
	refused(11, "\r\n", "c\r\n", "c\r\n250", "c\r\n250\r\nx")
	wantFeed(t, r, "c\r", api.OK)
	refused(13, "\n", "\nx", "\n220")

	if x, ok := r.Next(); !same(x, of(220, status(), "a")) || !ok {
		t.Fatalf("the first: %#v, %v", x, ok)
	}
	refused(13, "\n220 y\r\n")
	wantFeed(t, r, "\n220 y\r", api.OK)
	refused(6, "\n")
	for i := range api.MaxRing - 2 {
		if x, ok := r.Next(); !same(x, of(250, status(), "")) || !ok {
			t.Fatalf("the reply %d: %#v, %v", i, x, ok)
		}
	}
	wantFeed(t, r, "\n", api.OK)
	wantNext(t, r, of(221, status(), "z"), of(250, status(), "b", "c"), of(220, status(), "y"))
	wantState(t, r, api.OK, 0)
}

// P12.3: what stands behind a wrong byte is not read, so it is not too much, either.
func TestWrongWhereThereIsNoRoom(t *testing.T) {
	r := full(t)
	wantFeed(t, r, "25x\r\n250\r\n", api.ErrReply)
	wantState(t, r, api.ErrReply, 0)
	wantFeed(t, r, "250\r\n", api.ErrReply)
	told := all(r)
	if len(told) != api.MaxRing || !same(told[0], of(220, status(), "a")) || !same(told[api.MaxRing-1], of(221, status(), "z")) {
		t.Errorf("%d replies are told", len(told))
	}
}

// P12.3: one piece that is too much by itself, and what is left of a reader that refused it.
func TestOnePieceTooMuch(t *testing.T) {
	b := []byte(strings.Repeat("250\r\n", api.MaxRing+1))
	r := reader(t, "25")
	if e := r.Feed(b[2:]); e != api.ErrFull {
		t.Errorf("Feed: %d", e)
	}
	wantState(t, r, api.OK, 2)
	wantNext(t, r)
	if e := r.Feed(b[2 : len(b)-1]); e != api.OK {
		t.Errorf("Feed of one byte less: %d", e)
	}
	wantState(t, r, api.OK, 4)
	if n := len(all(r)); n != api.MaxRing {
		t.Errorf("%d replies are told", n)
	}
	wantFeed(t, r, "\n", api.OK)
	wantNext(t, r, of(250, status(), ""))
}

// R1, P12.5: no reader, and one that New did not make.
func TestNoReader(t *testing.T) {
	var zero reply.Reader
	for _, r := range []*reply.Reader{nil, &zero, new(reply.Reader)} {
		for range 2 { // nothing comes of it
			wantFeed(t, r, "220 x\r\n2", api.ErrNil)
			wantFeed(t, r, "x", api.ErrNil)
			wantFeed(t, r, "", api.ErrNil)
			if e := r.Feed(nil); e != api.ErrNil {
				t.Errorf("Feed(nil): %d", e)
			}
			wantState(t, r, api.ErrNil, 0)
			wantNext(t, r)
		}
	}
}

// R2: readers do not see one another.
func TestReadersSideBySide(t *testing.T) {
	a, b, c := reader(t, "250-a\r\n"), reader(t, "2"), reader(t, "220 c\r\n2")
	wantFeed(t, b, "x", api.ErrReply)
	wantFeed(t, a, "250 b\r\n", api.OK)
	wantState(t, a, api.OK, 0)
	wantState(t, b, api.ErrReply, 0)
	wantState(t, c, api.OK, 1)
	wantNext(t, b)
	wantNext(t, c, of(220, status(), "c"))
	wantNext(t, a, of(250, status(), "a", "b"))
	wantState(t, reader(t), api.OK, 0)
}

// R3: what is handed in stays as it is and is not kept.
func TestFeedLeavesAndKeepsNothing(t *testing.T) {
	const s = "250-2.0.0 a\r\n250 2.0.0 b\r\n354 go\r\n250-x\r\n25"
	for cut := range len(s) + 1 {
		r := reply.New()
		for _, piece := range []string{s[:cut], s[cut:]} {
			room := []byte(piece + "behind")
			if e := r.Feed(room[:len(piece)]); e != api.OK {
				t.Fatalf("Feed: %d", e)
			}
			if string(room) != piece+"behind" {
				t.Fatalf("the bytes became %q", room)
			}
			for i := range room {
				room[i] = '!'
			}
		}
		wantNext(t, r, of(250, status(2), "a", "b"), of(354, status(), "go"))
		wantFeed(t, r, "0 y\r\n", api.OK)
		wantNext(t, r, of(250, status(), "x", "y"))
	}
}

// R3: what is told is memory of its own, spare room too.
func TestNextTellsNewMemory(t *testing.T) {
	const s = "250-2.0.0 a\r\n250 2.0.0 b\r\n250-c\r\n250 d\r\n"
	a, b := of(250, status(2), "a", "b"), of(250, status(), "c", "d")
	r := reader(t, s+s+s[:14])
	for range 2 {
		for _, want := range []api.Reply{a, b} {
			x, ok := r.Next()
			if !same(x, want) || !ok {
				t.Fatalf("Next: %#v, %v, want %#v", x, ok, want)
			}
			for i := range x.Lines[:cap(x.Lines)] {
				x.Lines[:cap(x.Lines)][i] = "spoilt"
			}
		}
	}
	wantFeed(t, r, s[14:], api.OK)
	wantNext(t, r, a, b)
}
