package framer_test

import (
	"math/rand"
	"slices"
	"strings"
	"testing"

	"posthorn/api"
	"posthorn/dots"
	"posthorn/framer"
)

// letters are what streams are made of: all bytes that are told from one another.
const letters = "\r\n.a\x80"

// plans are rows of calls: each mode first, and behind each other one.
var plans = [][]call{
	nil,
	{data()},
	{data(), data()},
	{data(), chunk(2, 1), data()},
	{chunk(0, 0)},
	{chunk(1, 1), data()},
	{chunk(2, 0), chunk(0, 3), chunk(1, 9)},
	{chunk(3, 2), lines(), chunk(1, 0)},
	{chunk(4, 9)},
	{lines(), data(), lines(), data()},
	{lines(), chunk(2, 2), data()},
}

// P15.2 to P15.5: all short streams, cut in every way, with all these calls.
func TestAllShortStreams(t *testing.T) {
	eachStream(letters, 4, func(s string) {
		for _, plan := range plans {
			eachCut(len(s), func(cuts []int) {
				check(t, limits(1, 1, 2), s, plan, cuts...)
				checkOnce(t, limits(1, 1, 2), s, plan, cuts...)
			})
		}
	})
}

// P15.2 to P15.5: all streams that are a little longer, with more about them, in one piece and byte by byte.
func TestAllStreams(t *testing.T) {
	eachStream(letters, 5, func(s string) {
		for _, around := range [][2]string{{"", "\r\n"}, {"", ".\r\n"}, {"", "\r\n.\r\nx\r\n"}, {"a\r\n.", "\r\n.\r\n\r\n"}} {
			whole := around[0] + s + around[1]
			for _, plan := range plans {
				check(t, limits(2, 2, 5), whole, plan)
				check(t, limits(2, 2, 5), whole, plan, everyPlace(whole)...)
			}
		}
	})
}

// anyStream is a stream of all kinds of lines, for lines of at most so many bytes.
func anyStream(random *rand.Rand, most int) string {
	parts := []string{
		"\r\n", "\r\n", "\r\n", "\r\n", "a", "NOOP", "\x00", "\xff\xfe", "\r", "\n", ".", ".", "\r\n.", "\r\n..", "\r\n.\r", "\r\n.\r\n", "\r\n.\r\n",
		"\n.\r\n", "\r.\r\n", xs(most - 1), xs(most), xs(most + 1), "." + xs(most), xs(2 * most),
	}
	var s strings.Builder
	for range random.Intn(25) {
		s.WriteString(parts[random.Intn(len(parts))])
	}
	return s.String()
}

// anyPlan is calls of all kinds.
func anyPlan(random *rand.Rand) (plan []call) {
	for range random.Intn(9) {
		switch random.Intn(4) {
		case 0:
			plan = append(plan, lines())
		case 1, 2:
			plan = append(plan, data())
		case 3:
			plan = append(plan, chunk(int64(random.Intn(20)), int64(random.Intn(20))))
		}
	}
	return plan
}

// anyCuts are places at which a stream is cut, in their order, some of them twice.
func anyCuts(random *rand.Rand, s string) (cuts []int) {
	for range random.Intn(12) {
		cuts = append(cuts, random.Intn(len(s)+1))
	}
	slices.Sort(cuts)
	return cuts
}

// P15.5: the same bytes in any pieces, of no bytes too, with the same calls behind the same items.
func TestAnyPieces(t *testing.T) {
	random := rand.New(rand.NewSource(155))
	for range 4000 {
		l := limits(1+random.Intn(12), 1+random.Intn(12), 1+random.Intn(60))
		s, plan := anyStream(random, l.Line), anyPlan(random)
		first := check(t, l, s, plan)
		for _, w := range []*walk{
			check(t, l, s, plan, everyPlace(s)...), checkOnce(t, l, s, plan, everyPlace(s)...),
			check(t, l, s, plan, anyCuts(random, s)...), checkOnce(t, l, s, plan, anyCuts(random, s)...),
		} {
			wantItems(t, w.items, first.items)
			if w.at != first.at || w.f.Mode() != first.f.Mode() || w.f.Held() != first.f.Held() {
				t.Fatalf("%q, cut at %d: %d bytes, mode %d; in one piece %d, mode %d", s, w.cuts, w.at, w.f.Mode(), first.at, first.f.Mode())
			}
		}
	}
}

// P15.5: a dialogue of all modes, cut at every two places.
func TestCutAtEveryTwoPlaces(t *testing.T) {
	const s = "DATA\r\na\r\n..\n\r\n.\r\nBDAT\r\n\r\nab\r\n\r\n.\n\r\n.\r\nx\r\n"
	plan := []call{lines(), data(), lines(), chunk(5, 3), lines(), data(), lines()}
	first := check(t, few, s, plan)
	for i := range len(s) + 1 {
		for j := i; j <= len(s); j++ {
			for _, w := range []*walk{check(t, few, s, plan, i, j), checkOnce(t, few, s, plan, i, j)} {
				wantItems(t, w.items, first.items)
			}
		}
	}
	wantItems(t, first.items, []api.Item{
		right("DATA"), body("a\r\n.\n\r\n"), end(api.ErrBare), right("BDAT"), body("\r\na"), end(api.OK), bad(api.ErrBare), body("\n\r\n"), end(api.ErrBare), right("x"),
	})
}

// takeAll hands a framer pieces of s, each to its end; what came of it, ItemBodies as one.
func takeAll(t *testing.T, f *framer.Framer, s string, cuts ...int) []api.Item {
	t.Helper()
	w := &walk{}
	at := 0
	for _, to := range append(cuts[:len(cuts):len(cuts)], len(s)) {
		for {
			n, item := f.Take([]byte(s[at:to]))
			if n < 0 || n > to-at || item.Kind == api.ItemNone && n != to-at {
				t.Fatalf("Take(%.80q): %d, %s", s[at:to], n, show(item))
			}
			at += n
			w.join(item)
			if item.Kind == api.ItemNone {
				break
			}
		}
	}
	return w.items
}

// P15.6: rows without CR and LF, none longer than a line may be.
func TestRows(t *testing.T) {
	random := rand.New(rand.NewSource(156))
	for range 2000 {
		most := 1 + random.Intn(20)
		var want []api.Item
		var s strings.Builder
		for range random.Intn(9) {
			row := make([]byte, random.Intn(most+1))
			for i := range row {
				row[i] = byte(random.Intn(256))
				if row[i] == '\r' || row[i] == '\n' {
					row[i] = '.'
				}
			}
			s.WriteString(string(row) + "\r\n")
			want = append(want, right(string(row)))
		}
		for _, cuts := range [][]int{nil, everyPlace(s.String()), anyCuts(random, s.String())} {
			f := made(t, limits(most, 1, 1))
			wantItems(t, takeAll(t, f, s.String(), cuts...), want)
			wantData(t, f, api.OK)
		}
	}
}

// anyBody is a body that dots.Check takes for lines of at most so many bytes.
func anyBody(random *rand.Rand, text int) string {
	var s strings.Builder
	for range random.Intn(9) {
		row := make([]byte, random.Intn(text+1))
		for i := range row {
			row[i] = "..ab\x00\x7f\x80\xff \t"[random.Intn(10)]
		}
		s.Write(row)
		s.WriteString("\r\n")
	}
	return s.String()
}

// P15.7: bodies, stuffed, come as they are, and a line begins behind them.
func TestBodies(t *testing.T) {
	random := rand.New(rand.NewSource(157))
	for range 3000 {
		text := 1 + random.Intn(20)
		s := anyBody(random, text)
		if e := dots.Check([]byte(s), text); e != api.OK {
			t.Fatalf("Check(%q, %d): %d", s, text, e)
		}
		stuffed, _ := dots.Stuff([]byte(s))
		var want []api.Item
		if s != "" {
			want = append(want, body(s))
		}
		last := end(api.OK)
		last.High = strings.ContainsAny(s, "\x80\xff")
		want = append(want, last)
		for behind, more := range map[string][]api.Item{"": nil, "\n\r\n": {bad(api.ErrBare)}, ".\r\n": {right(".")}, "QUIT\r\nx": {right("QUIT")}} {
			whole := string(stuffed) + behind
			for _, cuts := range [][]int{nil, everyPlace(whole), anyCuts(random, whole)} {
				f := made(t, limits(9, text, max(len(s), 1)))
				wantData(t, f, api.OK)
				wantItems(t, takeAll(t, f, whole, cuts...), slices.Concat(want, more))
				wantMode(t, f, framer.Lines)
			}
		}
	}
}

// P15.8: octets of any kind come as they are, the first room of them, and a line begins behind them.
func TestChunks(t *testing.T) {
	random := rand.New(rand.NewSource(158))
	kinds := "\r\n.a\x00\x7f\x80\xff"
	for range 5000 {
		octets := make([]byte, random.Intn(40))
		for i := range octets {
			octets[i] = kinds[random.Intn(len(kinds))]
		}
		n := int64(len(octets))
		room := max(n-2+int64(random.Intn(5)), 0)
		if random.Intn(3) == 0 {
			room = int64(random.Intn(45))
		}
		var want []api.Item
		if told := string(octets[:min(room, n)]); told != "" {
			want = append(want, body(told))
		}
		want = append(want, end(api.OK))
		for behind, more := range map[string][]api.Item{"": nil, "\n\r\n": {bad(api.ErrBare)}, "\r\n": {right("")}, ".\r\n": {right(".")}, "QUIT\r\nx": {right("QUIT")}} {
			whole := string(octets) + behind
			for _, cuts := range [][]int{nil, {len(octets)}, everyPlace(whole), anyCuts(random, whole)} {
				f := made(t, limits(9, 1, 1))
				wantChunk(t, f, n, room, api.OK)
				wantItems(t, takeAll(t, f, whole, cuts...), slices.Concat(want, more))
				wantMode(t, f, framer.Lines)
			}
		}
	}
}

// P15.8: a message out of many chunks, side by side.
func TestManyChunks(t *testing.T) {
	random := rand.New(rand.NewSource(1580))
	for range 500 {
		var s, told strings.Builder
		var plan []call
		for range random.Intn(12) {
			octets := anyStream(random, 3)
			n := int64(len(octets))
			room := max(n+int64(random.Intn(3)-1), 0)
			plan = append(plan, chunk(n, room))
			s.WriteString(octets)
			told.WriteString(octets[:min(room, n)])
		}
		for _, cuts := range [][]int{nil, everyPlace(s.String()), anyCuts(random, s.String())} {
			w := check(t, few, s.String(), plan, cuts...)
			got := ""
			for _, x := range w.items {
				got += string(x.Bytes)
			}
			if got != told.String() || len(plan) > 0 && w.f.Mode() != framer.Lines {
				t.Fatalf("%q: told was %q, want %q; mode %d", s.String(), got, told.String(), w.f.Mode())
			}
		}
	}
}

// P15.9: how much is held, and how much is taken, whatever is asked.
func TestBounds(t *testing.T) {
	random := rand.New(rand.NewSource(159))
	for range 3000 {
		most := 1 + random.Intn(9)
		f := made(t, limits(most, 1+random.Intn(9), 1+random.Intn(30)))
		ofLine := 0
		for range 60 {
			switch random.Intn(12) {
			case 0:
				f.Data()
			case 1:
				f.Chunk(int64(random.Intn(12)-1), int64(random.Intn(12)-1))
			}
			b := []byte(anyStream(random, most))
			b = b[:random.Intn(len(b)+1)]
			mode := f.Mode()
			n, item := f.Take(b)
			if n < 0 || n > len(b) || item.Kind == api.ItemNone && n != len(b) {
				t.Fatalf("Take(%q) in mode %d: %d, %s", b, mode, n, show(item))
			}
			ofLine += n
			if mode != framer.Lines || item.Kind != api.ItemNone {
				ofLine = 0
			}
			if held := f.Held(); held < 0 || held > most+8 || f.Mode() == framer.Lines && held > ofLine {
				t.Fatalf("Held %d behind %d bytes of a line", held, ofLine)
			}
		}
	}
}
