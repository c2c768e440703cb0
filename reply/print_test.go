package reply_test

import (
	"math"
	"math/rand"
	"slices"
	"strings"
	"testing"

	"posthorn/api"
	"posthorn/reply"
)

// everyByte is each byte once.
func everyByte() string {
	b := make([]byte, 256)
	for i := range b {
		b[i] = byte(i)
	}
	return string(b)
}

// xs is a text of so many bytes.
func xs(n int) string { return strings.Repeat("x", n) }

// checkPrint holds Check and Print against the words (P12.2); a reply that may be is read again (P12.6).
func checkPrint(t *testing.T, r api.Reply) {
	t.Helper()
	if !modelMay(r) {
		wantNot(t, r)
		return
	}
	written := modelPrint(r)
	wantPrint(t, r, written)
	back := reader(t, written)
	wantNext(t, back, r)
	wantState(t, back, api.OK, 0)
}

// numbers are at the edges of numbers of three digits, and far off.
func numbers() []int {
	return []int{math.MinInt, math.MinInt + 250, math.MinInt32, -1000, -999, -250, -2, -1, 0, 1, 2, 9, 10, 99, 100,
		998, 999, 1000, 1001, 9999, math.MaxInt32, math.MaxInt - 1, math.MaxInt}
}

// P12.1: whatever they are.
func TestOf(t *testing.T) {
	for _, code := range append(numbers(), 250, 354, 559) {
		for _, s := range []api.Status{{}, {Class: 2}, status(5, 999, 999), status(-1, 1000, math.MaxInt), status(0, 0, 1)} {
			for _, text := range []string{"", "ok", "2.0.0 ok", "a\r\nb", "\x00\x7f\xff", xs(511), everyByte()} {
				r := reply.Of(code, s, text)
				if r.Code != code || r.Status != s || len(r.Lines) != 1 || r.Lines[0] != text {
					t.Fatalf("Of(%d, %v, %q): %#v", code, s, text, r)
				}
			}
		}
	}
}

// P12.1, R3: what is told is memory of its own.
func TestOfTellsNewMemory(t *testing.T) {
	a, b := reply.Of(250, status(2), "ok"), reply.Of(250, status(2), "ok")
	a.Lines[0] = "spoilt"
	_ = append(a.Lines[:0:cap(a.Lines)], make([]string, cap(a.Lines))...)
	if b.Lines[0] != "ok" || reply.Of(250, status(2), "ok").Lines[0] != "ok" {
		t.Error("two replies share their lines")
	}
}

// P12.2: codes at each edge of each digit, and all around them; each with no status and with one of its own class.
func TestCodes(t *testing.T) {
	codes := numbers()
	for code := -1100; code <= 11000; code++ {
		codes = append(codes, code)
	}
	// What is left of a greater number, if only some of its bits count.
	codes = append(codes, 250+1<<8, 250+1<<16, 250+1<<32, 250-1<<32, 250+1<<62, 250-1<<63)
	for _, code := range codes {
		checkPrint(t, reply.Of(code, status(), "x"))
		checkPrint(t, reply.Of(code, status(code/100, 1, 2), "x"))
		checkPrint(t, of(code, status(), "x", "2.0.0 y"))
	}
	for _, code := range []int{200, 209, 250, 259, 300, 359, 459, 500, 550, 559} {
		wantPrint(t, reply.Of(code, status(), "x"), string([]byte{byte('0' + code/100), byte('0' + code/10%10), byte('0' + code%10)})+" x\r\n")
	}
	for _, code := range []int{0, 2, 25, 100, 199, 260, 299, 360, 460, 499, 560, 599, 600, 999, 1000, 2500, -250} {
		wantNot(t, reply.Of(code, status(), "x"))
	}
}

// P12.2: each class beside each first digit, subjects and details at their edges and beyond, and a status that is
// neither none nor one.
func TestStatuses(t *testing.T) {
	classes := append(numbers(), 3, 4, 5, 6, 2+1<<32, 2-1<<63)
	parts := append(numbers(), 1<<32, 999+1<<32)
	for _, code := range []int{200, 259, 300, 354, 400, 459, 500, 559, 199, 600} {
		for _, class := range classes {
			for _, part := range parts {
				checkPrint(t, reply.Of(code, status(class, part, 0), "x"))
				checkPrint(t, reply.Of(code, status(class, 0, part), "x"))
				checkPrint(t, reply.Of(code, status(class, part, part), ""))
				checkPrint(t, of(code, status(class, part, 7), "x", "y"))
			}
		}
	}
	wantPrint(t, reply.Of(450, status(4, 7, 1), "x"), "450 4.7.1 x\r\n")
	wantPrint(t, reply.Of(550, status(5, 999, 999), "x"), "550 5.999.999 x\r\n")
	wantPrint(t, reply.Of(250, status(2, 10, 100), ""), "250 2.10.100 \r\n")
	wantNot(t, reply.Of(250, status(2, 1000, 0), "x"))
	wantNot(t, reply.Of(250, status(2, 0, -1), "x"))
	wantNot(t, reply.Of(250, status(0, 0, 1), "x"))
	wantNot(t, reply.Of(354, status(2, 0, 0), "x"))
}

// P12.2: 0, 1, 64 and 65 lines, and all between and some beyond.
func TestCountOfLines(t *testing.T) {
	for _, s := range []api.Status{status(), status(2, 5, 5)} {
		for n := range 70 {
			lines := make([]string, n)
			checkPrint(t, of(250, s, lines...))
			for i := range lines {
				lines[i] = xs(i)
			}
			checkPrint(t, of(250, s, lines...))
			if got := reply.Check(of(250, s, lines...)); (got == api.OK) != (n >= 1 && n <= 64) {
				t.Fatalf("Check of %d lines: %d", n, got)
			}
		}
		wantNot(t, api.Reply{Code: 250, Status: s, Lines: nil})
		wantNot(t, api.Reply{Code: 250, Status: s, Lines: []string{}})
	}
	wantNot(t, of(250, status(), make([]string, 1<<16)...))
}

// P12.2: each byte in a text, at its beginning, within it and at its end, in each line.
func TestBytesOfTexts(t *testing.T) {
	for _, c := range []byte(everyByte()) {
		b := string([]byte{c})
		for _, text := range []string{b, b + "x", "x" + b, "x" + b + "x", b + b} {
			for _, s := range []api.Status{status(), status(5, 1, 1)} {
				checkPrint(t, of(550, s, text))
				checkPrint(t, of(550, s, text, "y"))
				checkPrint(t, of(550, s, "y", text))
				checkPrint(t, of(550, s, "y", text, "z"))
			}
		}
		may := c == 9 || c >= 32 && c != 127
		if got := reply.Check(reply.Of(250, status(), b)); (got == api.OK) != may {
			t.Errorf("Check of the byte %d: %d", c, got)
		}
	}
	// What would be written as another reply, or as two.
	for _, text := range []string{"a\r\n250 b", "a\r\n", "\r\n", "a\n250 b", "a\r\n250-b"} {
		wantNot(t, of(250, status(), text))
		wantNot(t, of(250, status(2), text, "x"))
	}
}

// P12.2: rows of 510 and 511 bytes, with and without a status, in each line.
func TestLengthOfRows(t *testing.T) {
	for _, c := range []struct {
		s    api.Status
		most int
	}{{status(), 506}, {status(5), 500}, {status(5, 10, 0), 499}, {status(5, 10, 100), 497}, {status(5, 999, 999), 496}} {
		for n := c.most - 3; n <= c.most+3; n++ {
			for _, lines := range [][]string{{xs(n)}, {xs(n), "y"}, {"y", xs(n)}, {"y", xs(n), "z"}} {
				r := of(559, c.s, lines...)
				checkPrint(t, r)
				if got := reply.Check(r); (got == api.OK) != (n <= c.most) {
					t.Errorf("Check of a text of %d bytes with %v: %d", n, c.s, got)
				}
			}
		}
	}
	wantNot(t, reply.Of(250, status(), xs(1<<20)))
	most := make([]string, 64)
	for i := range most {
		most[i] = xs(496)
	}
	checkPrint(t, of(559, status(5, 999, 999), most...))
	most[63] += "x"
	wantNot(t, of(559, status(5, 999, 999), most...))
}

// P12.2: texts that begin with a status, and such as nearly do.
var statusTexts = []string{"2.0.0 ok", "2.0.0 ", "2.0.0", "2.0.0  x", "2.1.0 ok", "2.0.1 ok", "5.0.0 ok", "4.0.0", "3.0.0 ok", "1.0.0", "0.0.0 ok",
	"2.00.0 ok", "2.0.00 ok", "02.0.0 ok", "2.01.0 ok", "2.0.01", "2.0000.0 ok", "2.1000.0 ok", "2.0.1000", "2.999.999 ok", "2.999.999",
	"2.0.0ok", "2.0.0\tok", "2.0.0.", "2.0.0.0 ok", "2.0.0-", "2.0 ok", "2 ok", "2", "2.", "2.0", "2.0.", "2.0. ok", "2..0 ok", ".0.0 ok", "..", "2..",
	" 2.0.0 ok", "x 2.0.0", "ok", "", " ", "22.0.0 ok", "25.0.0", "-2.0.0 ok", "+2.0.0", "2.+0.0 ok", "2.-1.0 ok", "2.0x0.0 ok", "2,0,0 ok", "2.0.0\xa0ok",
	"2.18446744073709551616.0 ok", "2.0.18446744073709551616", "18446744073709551618.0.0 ok"}

// P12.2: without a status a reply may not begin with one in all its lines; with one it may.
func TestTextsThatBeginWithAStatus(t *testing.T) {
	for _, code := range []int{250, 354, 450, 550} {
		for _, s := range []api.Status{status(), status(code / 100), status(2)} {
			for _, a := range statusTexts {
				checkPrint(t, of(code, s, a))
				for _, b := range statusTexts {
					checkPrint(t, of(code, s, a, b))
					checkPrint(t, of(code, s, a, b, a))
				}
			}
		}
	}
	for _, lines := range [][]string{{"2.0.0 ok"}, {"2.0.0"}, {"2.0.0 "}, {"2.0.0 a", "2.0.0 b"}, {"2.0.0", "2.0.0 b", "2.0.0"}, {"2.999.999 x"}} {
		wantNot(t, of(250, status(), lines...))
	}
	for _, lines := range [][]string{{"2.0.0 a", "2.0.1 b"}, {"5.0.0 a", "5.0.0 b"}, {"2.00.0 a"}, {"2.0.0000"}, {"2.1000.0 a"}, {"2.0.0 a", ""}, {"", "2.0.0 a"},
		{"2.0.0 a", "5.0.0 b"}, {"2.0.0 a", "2.0.0 b", "x"}} {
		checkPrint(t, of(250, status(), lines...))
		if e := reply.Check(of(250, status(), lines...)); e != api.OK {
			t.Errorf("Check of %q: %d", lines, e)
		}
	}
	all := slices.Repeat([]string{"4.2.2 full"}, 64)
	wantNot(t, of(452, status(), all...))
	all[63] = "4.2.1 full"
	checkPrint(t, of(452, status(), all...))
}

// P12.2: all short texts out of what a status is made of.
func TestShortTexts(t *testing.T) {
	var grow func(s string, left int)
	grow = func(s string, left int) {
		checkPrint(t, reply.Of(250, status(), s))
		if left == 0 {
			return
		}
		for _, part := range []string{"2", "0", ".", " ", "5"} {
			grow(s+part, left-1)
		}
	}
	grow("", 6)
}

// P12.2, P12.6: replies out of right and wrong parts.
func TestAnyReplies(t *testing.T) {
	random := rand.New(rand.NewSource(12))
	for range 30000 {
		r := anyReply(random)
		switch random.Intn(6) {
		case 0:
			r.Code = numbers()[random.Intn(len(numbers()))]
		case 1:
			r.Status.Class = random.Intn(7)
		case 2:
			r.Status.Subject = numbers()[random.Intn(len(numbers()))]
		case 3:
			i := random.Intn(len(r.Lines))
			r.Lines[i] += string([]byte{byte(random.Intn(256))})
		}
		checkPrint(t, r)
	}
}

// anyReply is a reply that often may be.
func anyReply(random *rand.Rand) api.Reply {
	r := api.Reply{Code: (2+random.Intn(4))*100 + random.Intn(6)*10 + random.Intn(10)}
	if random.Intn(2) == 0 && r.Code/100 != 3 {
		r.Status = status(r.Code/100, random.Intn(12)*random.Intn(90), random.Intn(12)*random.Intn(90))
	}
	for range 1 + random.Intn(1+random.Intn(4)) {
		text := statusTexts[random.Intn(len(statusTexts))]
		if random.Intn(3) == 0 {
			text += xs(random.Intn(480))
		}
		r.Lines = append(r.Lines, text)
	}
	return r
}

// R3: what is handed in stays as it is, with the room behind its end, and what is told is memory of its own.
func TestPrintLeavesAndKeepsNothing(t *testing.T) {
	for _, s := range []api.Status{status(), status(2, 1, 5)} {
		room := []string{"a", "b", "behind", "behind"}
		r := of(250, s, room[:2]...)
		first, e := reply.Print(r)
		if e != api.OK || reply.Check(r) != api.OK {
			t.Fatalf("Print: %d", e)
		}
		if !slices.Equal(room, []string{"a", "b", "behind", "behind"}) {
			t.Errorf("the lines became %q", room)
		}
		want := string(first)
		second, _ := reply.Print(r)
		for i := range first[:cap(first)] {
			first[:cap(first)][i] = '!'
		}
		third, _ := reply.Print(r)
		if string(second) != want || string(third) != want {
			t.Errorf("Print tells %q and %q, want %q", second, third, want)
		}
	}
}
