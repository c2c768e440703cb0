package dots_test

import (
	"math"
	"math/rand"
	"slices"
	"strings"
	"testing"

	"posthorn/api"
	"posthorn/dots"
)

func xs(n int) string { return strings.Repeat("x", n) }

// outOfBounds are numbers that no limit may be.
var outOfBounds = []int{
	0, -1, -2, -998, -api.MaxLimit, api.MaxLimit + 1, api.MaxLimit + 2, 2 * api.MaxLimit, 1 << 32, 1<<32 + 1, 1<<62 + 5,
	math.MaxInt32, math.MinInt32, math.MaxInt, math.MinInt,
}

// modelCheck is what Check is to answer.
func modelCheck(s string, text int) api.Errno {
	switch {
	case text < 1 || text > 1<<24:
		return api.ErrArg
	case hasBare(s):
		return api.ErrBare
	case s != "" && !strings.HasSuffix(s, "\r\n"):
		return api.ErrLast
	case hasLong(s, text):
		return api.ErrText
	}
	return api.OK
}

// modelStuff is what Stuff is to answer.
func modelStuff(s string) (string, api.Errno) {
	if e := modelCheck(s, 1); e == api.ErrBare || e == api.ErrLast {
		return "", e
	}
	rows := strings.Split(s, "\r\n")
	for i, row := range rows {
		if strings.HasPrefix(row, ".") {
			rows[i] = "." + row
		}
	}
	return strings.Join(rows, "\r\n") + ".\r\n", api.OK
}

func wantCheck(t *testing.T, s string, text int, want api.Errno) {
	t.Helper()
	if e := dots.Check([]byte(s), text); e != want {
		t.Fatalf("Check(%.80q, %d): %d, want %d", s, text, e, want)
	}
}

func wantStuff(t *testing.T, s, want string, wantErr api.Errno) {
	t.Helper()
	if out, e := dots.Stuff([]byte(s)); string(out) != want || e != wantErr {
		t.Fatalf("Stuff(%.80q): %.80q, %d, want %.80q, %d", s, out, e, want, wantErr)
	}
}

// eachStream calls f with all streams of these bytes, of at most so many.
func eachStream(bytes string, most int, f func(string)) {
	streams := []string{""}
	for range most + 1 {
		var longer []string
		for _, s := range streams {
			f(s)
			for i := range len(bytes) {
				longer = append(longer, s+bytes[i:i+1])
			}
		}
		streams = longer
	}
}

// P14.1: the bounds of text, ahead of all that may be wrong with the body.
func TestCheckOfText(t *testing.T) {
	for _, s := range []string{"", "a\r\n", "\r\n", "a\n", "a\r", "\r", "\n", "a", xs(99), xs(99) + "\r\n"} {
		for _, text := range outOfBounds {
			wantCheck(t, s, text, api.ErrArg)
		}
		for _, text := range []int{1, 2, 98, 99, 100, api.MaxLimit - 1, api.MaxLimit} {
			wantCheck(t, s, text, modelCheck(s, text))
		}
	}
	if dots.Check(nil, 1) != api.OK || dots.Check(nil, api.MaxLimit) != api.OK || dots.Check(nil, 0) != api.ErrArg {
		t.Fatal("Check of no bytes")
	}
}

// P14.1: lines of text - 1, text and text + 1 bytes, wherever they stand.
func TestCheckOfLengths(t *testing.T) {
	for _, text := range []int{1, 2, 5, 997, 998, 999, 4096} {
		for _, n := range []int{0, text - 1, text, text + 1, text + 2, 2 * text, 9*text + 9} {
			want := api.OK
			if n > text {
				want = api.ErrText
			}
			row := xs(n) + "\r\n"
			for _, s := range []string{row, "\r\n" + row, row + "\r\n", row + row, "a\r\n" + row + "b\r\n", xs(text) + "\r\n" + row + xs(text) + "\r\n"} {
				wantCheck(t, s, text, want)
			}
			if n > 0 {
				wantCheck(t, "."+row[1:], text, want)
			}
		}
	}
	// Of the bytes of two lines none counts for the other.
	wantCheck(t, strings.Repeat("ab\r\n", 99), 2, api.OK)
	wantCheck(t, strings.Repeat("ab\r\n", 99)+"abc\r\n", 2, api.ErrText)
}

// P14.1: the greatest lines that may be.
func TestCheckOfGreatestLines(t *testing.T) {
	wantCheck(t, xs(api.MaxLimit)+"\r\n", api.MaxLimit, api.OK)
	wantCheck(t, xs(api.MaxLimit)+"\r\n", api.MaxLimit-1, api.ErrText)
	wantCheck(t, xs(api.MaxLimit+1)+"\r\n", api.MaxLimit, api.ErrText)
}

// P14.1, P14.2: half a line end at the beginning, in the middle and at the end.
func TestBare(t *testing.T) {
	for _, half := range []string{"\r", "\n", "\r\r", "\n\n", "\n\r", "\r\r\n", "\r\n\n", "\n\r\n"} {
		for _, s := range []string{half, half + "ab\r\n", "a" + half + "b\r\n", "ab" + half, "ab\r\n" + half, "ab\r\n" + half + "\r\n", "ab\r\n" + half + "cd\r\n", "." + half + "\r\n", xs(99) + "\r\n" + half} {
			for _, text := range []int{1, 2, 99} {
				wantCheck(t, s, text, api.ErrBare)
			}
			wantStuff(t, s, "", api.ErrBare)
		}
	}
}

// P14.1: of several errors the first one.
func TestCheckInOrder(t *testing.T) {
	for _, c := range []struct {
		s    string
		text int
		want api.Errno
	}{
		{"a\nb", 9, api.ErrBare}, {"abc\nd", 1, api.ErrBare}, {"abc\r\nd\re\r\n", 1, api.ErrBare}, {"abc", 1, api.ErrLast}, {"abc\r\nd", 1, api.ErrLast},
		{"abc\r\nd\r", 1, api.ErrBare}, {"abc\r\n\n", 1, api.ErrBare}, {"abc\r\n\r\n", 1, api.ErrText}, {"a\r\nbc\r\n", 1, api.ErrText}, {"a\n", 0, api.ErrArg}, {"abc", -1, api.ErrArg},
	} {
		wantCheck(t, c.s, c.text, c.want)
	}
}

// P14.1: a last line that is not ended.
func TestLast(t *testing.T) {
	for _, s := range []string{"a", ".", "..", "ab\r\nc", "\r\na", "\r\n.", "a\r\n\r\nb", "\x00", "\xff", xs(99)} {
		wantCheck(t, s, 9, api.ErrLast)
		wantStuff(t, s, "", api.ErrLast)
		wantStuff(t, s+"\n", "", api.ErrBare)
		wantStuff(t, s+"\r", "", api.ErrBare)
	}
}

// P14.2: dots that begin a line, and dots that don't.
func TestStuff(t *testing.T) {
	for _, c := range [][2]string{
		{"", ""},
		{"\r\n", "\r\n"},
		{"a\r\n", "a\r\n"},
		{".\r\n", "..\r\n"},
		{"..\r\n", "...\r\n"},
		{"...\r\n", "....\r\n"},
		{".a\r\n", "..a\r\n"},
		{"a.\r\n", "a.\r\n"},
		{"a.b.\r\n.c.\r\n", "a.b.\r\n..c.\r\n"},
		{" .\r\n", " .\r\n"},
		{".\r\n.\r\n.\r\n", "..\r\n..\r\n..\r\n"},
		{"\r\n.\r\n\r\n", "\r\n..\r\n\r\n"},
		{"a\r\n.\r\n", "a\r\n..\r\n"},
		{"\x00\xff\x7f\x80\r\n", "\x00\xff\x7f\x80\r\n"},
		{xs(99999) + "\r\n", xs(99999) + "\r\n"},
	} {
		wantStuff(t, c[0], c[1]+".\r\n", api.OK)
	}
	if out, e := dots.Stuff(nil); string(out) != ".\r\n" || e != api.OK {
		t.Fatalf("Stuff(nil): %q, %d", out, e)
	}
	if out, e := dots.Stuff([]byte("a\n")); len(out) != 0 || e != api.ErrBare {
		t.Fatalf("Stuff of a bare LF: %q, %d", out, e)
	}
}

// P14.1, P14.2: all short bodies.
func TestCheckAndStuffOfAllShortBodies(t *testing.T) {
	eachStream("\r\n.a\x80", 7, func(s string) {
		for text := range 4 {
			wantCheck(t, s, text, modelCheck(s, text))
		}
		want, e := modelStuff(s)
		wantStuff(t, s, want, e)
	})
}

// anyBody is a body that Check takes for lines of at most so many bytes.
func anyBody(random *rand.Rand, text int) string {
	var s strings.Builder
	for range random.Intn(9) {
		row := make([]byte, random.Intn(text+1))
		for i := range row {
			row[i] = "..ab\x00\x7f\x80\xff \t"[random.Intn(10)]
		}
		s.Write(row)
		s.WriteString("\r\n")
	}
	return s.String()
}

// P14.1, P14.2: bodies of all kinds, right ones and those with a byte more or less.
func TestCheckAndStuffOfAnyBodies(t *testing.T) {
	random := rand.New(rand.NewSource(141))
	for range 5000 {
		text := 1 + random.Intn(30)
		s := anyBody(random, text)
		wantCheck(t, s, text, api.OK)
		want, e := modelStuff(s)
		wantStuff(t, s, want, e)
		at := random.Intn(len(s) + 1)
		for _, more := range []string{"\r", "\n", "\r\n", ".", "a"} {
			other := s[:at] + more + s[at:]
			wantCheck(t, other, text, modelCheck(other, text))
			want, e = modelStuff(other)
			wantStuff(t, other, want, e)
		}
		if at < len(s) {
			other := s[:at] + s[at+1:]
			wantCheck(t, other, text, modelCheck(other, text))
			want, e = modelStuff(other)
			wantStuff(t, other, want, e)
		}
	}
}

// R3: what is handed to Check and Stuff stays as it is, with the room behind its end, which is not looked at.
func TestBodyHandedIn(t *testing.T) {
	for _, s := range []string{"", ".", "a\r", ".\r\n", ".a\r\n..\r\n\r\nb\r\n", "a\nb", "ab"} {
		for _, room := range []string{"", "\n", "\r\n.\r\n", "behind"} {
			all := []byte(s + room)
			given := all[:len(s)]
			e := dots.Check(given, 1)
			out, stuffErr := dots.Stuff(given)
			want, wantErr := modelStuff(s)
			if e != modelCheck(s, 1) || string(out) != want || stuffErr != wantErr || string(all) != s+room {
				t.Fatalf("Check and Stuff of %q: %d, %q, %d; %q", s, e, out, stuffErr, all)
			}
		}
	}
}

// R3: what Stuff tells is memory of its own, spare room too.
func TestStuffHandsOutItsOwn(t *testing.T) {
	for _, s := range []string{"", "a\r\n", ".a\r\nb\r\n", strings.Repeat("ab\r\n", 99)} {
		given := []byte(s)
		first, _ := dots.Stuff(given)
		second, _ := dots.Stuff(given)
		want, _ := modelStuff(s)
		for i := range first[:cap(first)] {
			first[:cap(first)][i] = '#'
		}
		if third, e := dots.Stuff(given); string(third) != want || e != api.OK || string(second) != want || string(given) != s {
			t.Fatalf("Stuff(%q): %q, then %q; %q", s, second, third, given)
		}
		for i := range given {
			given[i] = '#'
		}
		if string(second) != want {
			t.Fatalf("Stuff(%q): %q", s, second)
		}
	}
}

// R2: Check and Stuff answer the same however often they are asked, and in whichever order.
func TestCheckAndStuffAgain(t *testing.T) {
	asked := []string{"", ".\r\n", "a", "a\n", "ab\r\n", "a\r", ".", "..\r\n"}
	for range 3 {
		for _, s := range asked {
			wantCheck(t, s, 1, modelCheck(s, 1))
			want, e := modelStuff(s)
			wantStuff(t, s, want, e)
		}
		slices.Reverse(asked)
	}
}
