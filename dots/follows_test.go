package dots_test

import (
	"math/rand"
	"slices"
	"strings"
	"testing"

	"posthorn/api"
	"posthorn/dots"
)

// letters are what streams are made of: all bytes that a reader tells from one another.
const letters = "\r\n.a\x80"

// P14.4, P14.5, P14.8: all short streams, cut in every way.
func TestAllShortStreams(t *testing.T) {
	eachStream(letters, 6, func(s string) {
		for _, c := range [][2]int{{1, 9}, {2, 3}, {9, 1}} {
			m := modelOf(s, c[0], c[1])
			for cut := range 1 << max(len(s)-1, 0) {
				var cuts []int
				for i := 1; i < len(s); i++ {
					if cut>>(i-1)&1 == 1 {
						cuts = append(cuts, i)
					}
				}
				m.check(t, cuts...)
			}
		}
	})
}

// P14.4, P14.5, P14.8: all streams that are a little longer, with more about them, in one piece and byte by byte.
func TestAllStreams(t *testing.T) {
	eachStream(letters, 6, func(s string) {
		for _, around := range [][2]string{{"", ".\r\n"}, {"", "\r\n.\r\nx"}, {"a\r\n", "\n.\r\n"}, {"a\r\n.", "\r\n.\r\n"}, {"..\r", "\n.\r\n.\r\n"}} {
			whole := around[0] + s + around[1]
			m := modelOf(whole, 2, 5)
			m.check(t)
			m.check(t, everyPlace(whole)...)
		}
	})
}

// anyStream is a stream of all kinds of lines, for lines of at most text bytes, with an end or without one.
func anyStream(random *rand.Rand, text int) string {
	parts := []string{
		"\r\n", "\r\n", "\r\n", "\r\n", "a", "NOOP", "\x00", "\xff\xfe", "\r", "\n", ".", ".", "\r\n.", "\r\n..", "\r\n.\r", "\r\n.\n", "\n.\r\n", "\r.\r\n",
		xs(text - 1), xs(text), xs(text + 1), "." + xs(text), xs(2 * text),
	}
	if random.Intn(3) > 0 {
		parts = slices.DeleteFunc(parts, func(s string) bool { return hasBare(s) })
	}
	var s strings.Builder
	for range random.Intn(20) {
		s.WriteString(parts[random.Intn(len(parts))])
	}
	if random.Intn(3) > 0 {
		s.WriteString("\r\n.\r\nQUIT\r\n")
	}
	return s.String()
}

// anyCuts are places at which a stream is cut, in their order, some of them twice.
func anyCuts(random *rand.Rand, s string) (cuts []int) {
	for range random.Intn(12) {
		cuts = append(cuts, random.Intn(len(s)+1))
	}
	slices.Sort(cuts)
	return cuts
}

// P14.8: the same stream in any pieces, of no bytes too.
func TestAnyPieces(t *testing.T) {
	random := rand.New(rand.NewSource(148))
	for range 5000 {
		text := 1 + random.Intn(20)
		s := anyStream(random, text)
		m := modelOf(s, text, 1+random.Intn(len(s)+3))
		first := m.check(t)
		for _, cuts := range [][]int{everyPlace(s), anyCuts(random, s), anyCuts(random, s)} {
			w := m.check(t, cuts...)
			if w.told.String() != first.told.String() || w.at != first.at || w.over != first.over {
				t.Fatalf("%q, cut at %d: %q and %d, in one piece %q and %d", s, cuts, w.told.String(), w.at, first.told.String(), first.at)
			}
		}
	}
}

// P14.8: a stream cut at every two places.
func TestCutAtEveryTwoPlaces(t *testing.T) {
	for _, s := range []string{"a\r\n.\r\n", ".\r\n", "..\r\n..a\r\n.\r\nb", ".\r.\r\n.\n\r\n.\r\r\n.\r\n", "abc\r\n.\rd\r\n\r\n.\r\n.\r\n", "a\n.\n\r\n.\r\nb"} {
		for _, all := range []int{1, 4, 99} {
			m := modelOf(s, 3, all)
			for i := range len(s) + 1 {
				for j := i; j <= len(s); j++ {
					m.check(t, i, j)
				}
			}
		}
	}
}

// takeAll hands a reader pieces of s till its end is told; what it told, and how many bytes it took.
func takeAll(t *testing.T, r *dots.Reader, s string, cuts ...int) (told string, taken int, last api.Item) {
	t.Helper()
	for _, to := range append(cuts[:len(cuts):len(cuts)], len(s), len(s)) {
		for taken < to || to == len(s) {
			n, item := r.Take([]byte(s[taken:max(taken, to)]))
			taken, told = taken+n, told+string(item.Bytes)
			if item.Kind == api.ItemEnd {
				last = item
			}
			if item.Kind == api.ItemNone {
				break
			}
		}
	}
	return told, taken, last
}

// thereAndBack stuffs a body and reads it again, with bytes behind it.
func thereAndBack(t *testing.T, s, behind string, text, all int, cuts ...int) {
	t.Helper()
	out, e := dots.Stuff([]byte(s))
	if e != api.OK || dots.Check([]byte(s), text) != api.OK {
		t.Fatalf("Stuff(%q): %d", s, e)
	}
	r := reader(t, text, all)
	told, taken, last := takeAll(t, r, string(out)+behind, cuts...)
	if told != s || taken != len(out) || last.Kind != api.ItemEnd || last.Why != api.OK || last.High != hasHigh(s) {
		t.Fatalf("%q, behind it %q, cut at %d: %q, %d bytes taken, %#v", s, behind, cuts, told, taken, last)
	}
}

// P14.7: all short bodies, there and back, with the least numbers that do.
func TestAllShortBodiesThereAndBack(t *testing.T) {
	eachStream(".a\x80/", 6, func(s string) {
		s = strings.ReplaceAll(s, "/", "\r\n")
		if s != "" {
			s += "\r\n"
		}
		for _, behind := range []string{"", "\n", ".\r\n"} {
			thereAndBack(t, s, behind, 6, max(len(s), 1))
			thereAndBack(t, s, behind, 6, 99, everyPlace(s)...)
		}
	})
}

// P14.7: bodies of all kinds, there and back, in any pieces, with any bytes behind them.
func TestAnyBodiesThereAndBack(t *testing.T) {
	random := rand.New(rand.NewSource(147))
	for range 5000 {
		text := 1 + random.Intn(30)
		s := anyBody(random, text)
		behind := anyStream(random, text)
		all := max(len(s), 1) + random.Intn(3)
		thereAndBack(t, s, behind, text, all)
		thereAndBack(t, s, behind, text, all, anyCuts(random, s+behind)...)
		thereAndBack(t, s, behind, text, all, everyPlace(s)...)
	}
}

// P14.9: with CR LF ahead of them, the end is behind the first CR LF . CR LF of the bytes.
func TestNothingElseEnds(t *testing.T) {
	want := func(s string) int {
		if i := strings.Index("\r\n"+s, "\r\n.\r\n"); i >= 0 {
			return i + 3
		}
		return -1
	}
	ends := func(s string, cuts ...int) {
		t.Helper()
		_, taken, last := takeAll(t, reader(t, 2, 3), s, cuts...)
		at := want(s)
		if at < 0 && (taken != len(s) || last.Kind != api.ItemNone) || at >= 0 && (taken != at || last.Kind != api.ItemEnd) {
			t.Fatalf("%q, cut at %d: %d bytes taken, %#v, want the end at %d", s, cuts, taken, last, at)
		}
	}
	eachStream("\r\n.a", 8, func(s string) {
		ends(s)
		ends(s, everyPlace(s)...)
	})
	random := rand.New(rand.NewSource(149))
	for range 5000 {
		s := anyStream(random, 2)
		ends(s)
		ends(s, anyCuts(random, s)...)
	}
}

// dotsBack puts a dot back ahead of the lines of a body that had one in the stream.
func dotsBack(told, stream string) string {
	rows, had := strings.Split(told, "\r\n"), strings.Split(stream, "\r\n")
	for i := range rows {
		if strings.HasPrefix(had[i], ".") && i < len(rows)-1 {
			rows[i] = "." + rows[i]
		}
	}
	return strings.Join(rows, "\r\n")
}

// singleDots tells whether a line of a stream that began with a dot did not begin with two.
func singleDots(stream string) bool {
	s := "\r\n" + strings.TrimSuffix(stream, ".\r\n")
	return strings.Count(s, "\r\n.") != strings.Count(s, "\r\n..")
}

// P14.10: with its dots put back what was told is the stream; and so it is, stuffed again.
func TestWhatWasThere(t *testing.T) {
	again := 0
	was := func(s string, cuts ...int) {
		t.Helper()
		told, taken, last := takeAll(t, reader(t, 2, max(len(s), 1)), s, cuts...)
		if last.Kind != api.ItemEnd {
			return
		}
		stream := s[:taken]
		if back := dotsBack(told, stream); back != stream[:len(stream)-3] {
			t.Fatalf("%q: told was %q, with its dots %q", stream, told, back)
		}
		if last.Why == api.ErrBare || singleDots(stream) {
			return
		}
		again++
		if out, e := dots.Stuff([]byte(told)); string(out) != stream || e != api.OK {
			t.Fatalf("%q: told was %q, stuffed again %q, %d", stream, told, out, e)
		}
	}
	eachStream("\r\n.a", 6, func(s string) {
		was(s + "\r\n.\r\n")
		was(s+"\r\n.\r\n", everyPlace(s)...)
	})
	random := rand.New(rand.NewSource(1410))
	for range 5000 {
		s := anyStream(random, 2)
		was(s, anyCuts(random, s)...)
	}
	if again < 1000 {
		t.Fatalf("only %d were stuffed again", again)
	}
}

// P14.10: a body in which a bare CR or LF was found is refused by Stuff, and by nothing else.
func TestBareAsStuffHasIt(t *testing.T) {
	eachStream("\r\n.a", 7, func(s string) {
		whole := s + "\r\n.\r\n"
		told, _, last := takeAll(t, reader(t, 99, 99), whole)
		if _, e := dots.Stuff([]byte(told)); e != last.Why {
			t.Fatalf("%q: %q, %#v, Stuff %d", whole, told, last, e)
		}
	})
}

// P14.11: behind each piece all bytes were told but the dots that were dropped, those that are held, and the end.
func TestAsItComes(t *testing.T) {
	random := rand.New(rand.NewSource(1411))
	for range 5000 {
		s := anyStream(random, 9)
		r := reader(t, 9, max(len(s), 1))
		told, at, ended := 0, 0, 0
		for at < len(s) {
			n, item := r.Take([]byte(s[at:min(at+1+random.Intn(4), len(s))]))
			at, told = at+n, told+len(item.Bytes)
			if modelEnd(s[:at]) >= 0 {
				ended = 3
			}
			stream := s[:at-ended-r.Held()]
			if dropped := strings.Count("\r\n"+stream, "\r\n."); told != at-dropped-r.Held()-ended {
				t.Fatalf("%q: %d bytes told, %d held, %d dots dropped", s[:at], told, r.Held(), dropped)
			}
			if ended > 0 {
				break
			}
		}
	}
}
