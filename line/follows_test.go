package line_test

import (
	"math/rand"
	"slices"
	"strings"
	"testing"

	"posthorn/api"
	"posthorn/line"
)

// eachStream calls f with all streams of CR, LF and a letter of at most so many bytes.
func eachStream(most int, f func(string)) {
	streams := []string{""}
	for range most + 1 {
		var longer []string
		for _, s := range streams {
			f(s)
			longer = append(longer, s+"\r", s+"\n", s+"a")
		}
		streams = longer
	}
}

// P13.2, P13.3, P13.5: all short streams, cut in every way.
func TestAllShortStreams(t *testing.T) {
	eachStream(7, func(s string) {
		for _, most := range []int{1, 2, 3} {
			for cuts := range 1 << max(len(s)-1, 0) {
				var ends []int
				for i := 1; i < len(s); i++ {
					if cuts>>(i-1)&1 == 1 {
						ends = append(ends, i)
					}
				}
				check(t, most, s, ends...)
			}
		}
	})
}

// P13.2: all streams that are a little longer, in one piece and byte by byte.
func TestAllStreams(t *testing.T) {
	eachStream(9, func(s string) {
		check(t, 2, s)
		check(t, 2, s, everyPlace(s)...)
	})
}

// anyStream is bytes that are lines of all kinds, for lines of at most so many bytes.
func anyStream(random *rand.Rand, most int) string {
	parts := []string{"\r\n", "\r\n", "\r\n", "a", "NOOP", "\x00", "\xff\xfe", "\r", "\n", ".", xs(most - 1), xs(most), xs(most + 1), xs(most + 9), xs(2 * most)}
	var s strings.Builder
	for range random.Intn(20) {
		s.WriteString(parts[random.Intn(len(parts))])
	}
	return s.String()
}

// anyEnds are places at which a text is cut, in their order, some of them twice.
func anyEnds(random *rand.Rand, s string) (ends []int) {
	for range random.Intn(12) {
		ends = append(ends, random.Intn(len(s)+1))
	}
	slices.Sort(ends)
	return ends
}

// P13.5: the same bytes in any pieces.
func TestAnyPieces(t *testing.T) {
	random := rand.New(rand.NewSource(135))
	for range 5000 {
		most := 1 + random.Intn(40)
		s := anyStream(random, most)
		items, left := takeAll(t, liner(t, most), most, s)
		check(t, most, s)
		for _, ends := range [][]int{everyPlace(s), anyEnds(random, s), anyEnds(random, s)} {
			check(t, most, s, ends...)
			again, leftAgain := takeAll(t, liner(t, most), most, s, ends...)
			if leftAgain != left || !slices.EqualFunc(again, items, func(a, b taken) bool { return same(a.item, b.item) && a.size == b.size }) {
				t.Fatalf("%q, most %d, cut at %d: %#v and %d, want %#v and %d", s, most, ends, again, leftAgain, items, left)
			}
		}
	}
}

// P13.5: a line cut at every place, between its CR and LF too, and at every two.
func TestCutAtEveryPlace(t *testing.T) {
	for _, s := range []string{"MAIL FROM:<a@b>\r\n", "\r\n", "ab\r\ncd\r\n", "a\rb\r\nc\r\n", "a\n\r\nc\r\n", "\r\r\n\n\r\n", xs(40) + "\r\nab\r\n", xs(20) + "\r\n" + xs(21) + "\r\nab"} {
		check(t, 20, s)
		for i := range len(s) + 1 {
			check(t, 20, s[:i])
			for j := i; j <= len(s); j++ {
				check(t, 20, s, i, j)
			}
		}
	}
}

// P13.6: one item for each CR LF; the right lines with their ends, and as many bytes as were taken for the bad ones,
// are the stream again.
func TestLineForLine(t *testing.T) {
	random := rand.New(rand.NewSource(136))
	for range 5000 {
		most := 1 + random.Intn(40)
		s := anyStream(random, most)
		items, left := takeAll(t, liner(t, most), most, s, anyEnds(random, s)...)
		if len(items) != strings.Count(s, "\r\n") {
			t.Fatalf("%q: %d items", s, len(items))
		}
		at := 0
		for _, x := range items {
			piece := s[at : at+x.size]
			if !strings.HasSuffix(piece, "\r\n") || strings.Count(piece, "\r\n") != 1 {
				t.Fatalf("%q: for %#v %q was taken", s, x.item, piece)
			}
			if x.item.Kind == api.ItemLine && x.item.Text+"\r\n" != piece {
				t.Fatalf("%q: for %#v %q was taken", s, x.item, piece)
			}
			at += x.size
		}
		if at+left != len(s) || strings.Contains(s[at:], "\r\n") {
			t.Fatalf("%q: %d and %d bytes were taken", s, at, left)
		}
	}
}

// badLines are lines of each kind that is bad where at most five bytes may be.
var badLines = []string{
	"\r", "\n", "\n\n", "\ra", "\na", "a\rb", "a\nb", "a\r", "a\n", "\r\r", "\n\r", "abcdef", "abcdefghijklmnop", "abcdef\rg", "abcdef\n", "\nabcdef",
	"abcdefghijklmnop\nq", "abcdefghijklmnop\r", "a\nQUIT\n", "a\n.\nQUIT", "a\r.\rQUIT", "\n.\n", "abcde\r", "abcde\n",
}

// P13.7: the line behind a bad one is read as if it stood alone.
func TestBehindBadLines(t *testing.T) {
	lines := append(slices.Clone(badLines), "", "a", "abcd", "abcde")
	for _, first := range badLines {
		for _, second := range lines {
			alone := second + "\r\n"
			_, want := liner(t, 5).Take([]byte(alone))

			l := liner(t, 5)
			if n, item := l.Take([]byte(first + "\r\n" + alone)); n != len(first)+2 || item.Kind != api.ItemBad {
				t.Fatalf("Take(%q): %d, %#v", first+"\r\n"+alone, n, item)
			}
			wantHeld(t, l, first+"\r\n", 5)
			wantTake(t, l, alone, len(alone), want)
			check(t, 5, first+"\r\n"+alone, everyPlace(first+"\r\n"+alone)...)
			check(t, 5, first+"\r\n"+first+"\r\n"+alone)
		}
	}
}

// P13.7: behind a bad line a liner is as a new one, for all that may follow.
func TestAsNewBehindBadLines(t *testing.T) {
	random := rand.New(rand.NewSource(137))
	for range 5000 {
		first := badLines[random.Intn(len(badLines))] + "\r\n"
		behind := anyStream(random, 5)
		l := liner(t, 5)
		if n, item := l.Take([]byte(first)); n != len(first) || item.Kind != api.ItemBad {
			t.Fatalf("Take(%q): %d, %#v", first, n, item)
		}
		asNew(t, l, liner(t, 5), behind)
	}
}

// asNew asks two liners for all that they tell of s, and whether that is the same.
func asNew(t *testing.T, a, b *line.Liner, s string) {
	t.Helper()
	items, left := takeAll(t, a, 5, s)
	want, wantLeft := takeAll(t, b, 5, s)
	if left != wantLeft || a.Held() != b.Held() || !slices.EqualFunc(items, want, func(x, y taken) bool { return same(x.item, y.item) && x.size == y.size }) {
		t.Fatalf("%q: %#v and %d, want %#v and %d", s, items, left, want, wantLeft)
	}
}
