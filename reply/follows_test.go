package reply_test

import (
	"math/rand"
	"slices"
	"strings"
	"testing"

	"posthorn/api"
	"posthorn/reply"
)

// anyEnds are places at which a text is cut, in their order, some of them twice.
func anyEnds(random *rand.Rand, s string) (ends []int) {
	for range random.Intn(12) {
		ends = append(ends, random.Intn(len(s)+1))
	}
	slices.Sort(ends)
	return ends
}

// feedCut feeds s in the pieces that end at these places, and what is left; what the last Feed answered.
func feedCut(r *reply.Reader, s string, ends []int) (e api.Errno) {
	begin := 0
	for _, end := range append(slices.Clone(ends), len(s)) {
		e = r.Feed([]byte(s[begin:end]))
		begin = end
	}
	return e
}

// P12.6: replies that may be, one behind the other, in any pieces.
func TestThereAndBack(t *testing.T) {
	random := rand.New(rand.NewSource(126))
	for range 3000 {
		var replies []api.Reply
		var written []byte
		for range random.Intn(8) {
			x := anyReply(random)
			b, e := reply.Print(x)
			if e != api.OK {
				continue
			}
			replies, written = append(replies, x), append(written, b...)
		}
		for range 3 {
			r := reply.New()
			ends := anyEnds(random, string(written))
			if e := feedCut(r, string(written), ends); e != api.OK {
				t.Fatalf("Feed of %q: %d", written, e)
			}
			wantState(t, r, api.OK, 0)
			wantNext(t, r, replies...)
		}
	}
}

// anyStream is bytes that are often right.
func anyStream(random *rand.Rand) string {
	parts := []string{"250 2.0.0 ok\r\n", "250-2.0.0 a\r\n", "250 2.0.1 b\r\n", "250\r\n", "250-x\r\n", "250 y\r\n", "250-\r\n", "354 go\r\n", "550 2.0.0 x\r\n",
		"250 2.0.0\r\n", "250-2.0.0\r\n", "250-" + xs(506) + "\r\n", "250 " + xs(506) + "\r\n"}
	wrong := []string{"\r", "\n", "2", "251 x\r\n", "250 a\rb", "250 \x7f\r\n", "250-" + xs(507), strings.Repeat("250-a\r\n", 64)}
	s := ""
	for range random.Intn(8) {
		s += parts[random.Intn(len(parts))]
	}
	if random.Intn(3) == 0 {
		s += wrong[random.Intn(len(wrong))] + parts[random.Intn(len(parts))]
	}
	if random.Intn(4) == 0 && s != "" {
		s = s[:random.Intn(len(s))]
	}
	return s
}

// P12.7: the same bytes in any pieces.
func TestAnyPieces(t *testing.T) {
	random := rand.New(rand.NewSource(127))
	for range 3000 {
		s := anyStream(random)
		one := reply.New()
		one.Feed([]byte(s))
		e, held, told := one.Err(), one.Held(), all(one)
		checkRead(t, s, random.Intn(2) == 0, anyEnds(random, s)...)
		for _, ends := range [][]int{everyPlace(s), anyEnds(random, s), anyEnds(random, s)} {
			r := reply.New()
			if got := feedCut(r, s, ends); got != e {
				t.Fatalf("%q, cut at %d: Feed %d, want %d", s, ends, got, e)
			}
			wantState(t, r, e, held)
			wantNext(t, r, told...)
		}
	}
}

// P12.8: what is told may be; written and read again it is the same.
func TestReadAndWritten(t *testing.T) {
	check := func(s string) {
		t.Helper()
		r := reply.New()
		r.Feed([]byte(s))
		for _, x := range all(r) {
			b, e := reply.Print(x)
			if e != api.OK || reply.Check(x) != api.OK {
				t.Fatalf("Print of %#v, which was read of %q: %d", x, s, e)
			}
			back := reader(t, string(b))
			wantState(t, back, api.OK, 0)
			wantNext(t, back, x)
			if again, e := reply.Print(x); string(again) != string(b) || e != api.OK {
				t.Fatalf("Print of %#v twice: %q and %q", x, b, again)
			}
		}
	}
	for _, a := range statusTexts {
		for _, code := range []string{"250", "354", "450", "550"} {
			check(code + " " + a + "\r\n")
			for _, b := range statusTexts {
				check(code + "-" + a + "\r\n" + code + " " + b + "\r\n")
			}
			check(code + "-" + a + "\r\n" + code + "\r\n")
		}
	}
	for _, text := range []string{xs(506), "2.0.0 " + xs(500), "2.999.999 " + xs(496), "2.0.0" + strings.Repeat(" ", 501)} {
		check("250 " + text + "\r\n")
		check("250-" + text + "\r\n250 " + text + "\r\n")
		check("250-" + text + "\r\n250 2.0.0\r\n")
		check(strings.Repeat("250-"+text+"\r\n", 63) + "250 " + text + "\r\n")
	}
	random := rand.New(rand.NewSource(128))
	for range 5000 {
		check(anyStream(random))
	}
}

// P12.9: bytes that are wrong behind whole replies take none of these away, in one piece with them or not.
func TestWrongBehindWholeReplies(t *testing.T) {
	const ahead = "220 a\r\n250-2.0.0 b\r\n250 2.0.0 c\r\n354\r\n"
	want := []api.Reply{of(220, status(), "a"), of(250, status(2), "b", "c"), of(354, status(), "")}
	for _, wrong := range []string{"x", "\r", "\n", "1", "26", "25\r", "250x", "250\rx", "250 \n", "250 \x00", "250-a\r\n251", "250-a\r\n\r",
		"250 " + xs(507), strings.Repeat("250-\r\n", 63) + "250-", "250-a\r\n250-b\r\n2x"} {
		for _, behind := range []string{"", "\r\n", "220 z\r\n"} {
			s := ahead + wrong + behind
			for _, ends := range [][]int{nil, {len(ahead)}, {len(ahead) - 1}, {len(ahead), len(ahead) + len(wrong)}, everyPlace(s)} {
				r := reply.New()
				if e := feedCut(r, s, ends); e != api.ErrReply {
					t.Fatalf("Feed of %q: %d", s, e)
				}
				wantState(t, r, api.ErrReply, 0)
				wantNext(t, r, want...)
				wantState(t, r, api.ErrReply, 0)
			}
		}
	}
}
