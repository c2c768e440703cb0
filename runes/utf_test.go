package runes_test

import (
	"bytes"
	"math"
	"math/rand"
	"slices"
	"strings"
	"testing"
	"unicode/utf8"

	"posthorn/api"
	"posthorn/runes"
)

// rune32 tells whether a number is a rune, as the chapter's section Words has it.
func rune32(n int) bool { return n >= 0 && n <= 0x10FFFF && (n < 0xD800 || n > 0xDFFF) }

// bytesOf are the bytes of a rune, as the chapter's section Words has them.
func bytesOf(r int) string {
	count := 4
	for i, most := range []int{0x7F, 0x7FF, 0xFFFF} {
		if r <= most {
			count = i + 1
			break
		}
	}
	if count == 1 {
		return string([]byte{byte(r)})
	}
	b := make([]byte, count)
	for i := count - 1; i > 0; i-- {
		b[i] = byte(0x80 | r%64)
		r /= 64
	}
	b[0] = byte(0xFF<<(8-count)) | byte(r)
	return string(b)
}

// longest is how long the longest well-formed beginning is: bytes are read as their bits say, and held against
// the bytes of the rune that they say.
func longest(s string) int {
	at := 0
	for at < len(s) {
		n := runeLength(s[at:])
		if n == 0 {
			break
		}
		at += n
	}
	return at
}

// runeLength is how many bytes the rune has with which a text begins; 0, if it begins with none.
func runeLength(s string) int {
	for n := 1; n <= 4 && n <= len(s); n++ {
		r := int(s[0])
		if n > 1 {
			r &= 1<<(7-n) - 1
		}
		for i := 1; i < n; i++ {
			r = r<<6 | int(s[i])&63
		}
		if rune32(r) && bytesOf(r) == s[:n] {
			return n
		}
	}
	return 0
}

// canGoOn tells whether up to three further bytes make a text well-formed.
func canGoOn(s string, more int) bool {
	if longest(s) == len(s) {
		return true
	}
	if more == 0 {
		return false
	}
	// Bytes that are at the edges of what may stand behind a first one.
	for _, b := range []byte{0x80, 0x8F, 0x90, 0x9F, 0xA0, 0xBF} {
		if canGoOn(s+string([]byte{b}), more-1) {
			return true
		}
	}
	return false
}

// edges are bytes at both sides of every bound that the words set.
var edges = []byte{0, 'a', 0x7F, 0x80, 0x8F, 0x90, 0x9F, 0xA0, 0xBF, 0xC0, 0xC1, 0xC2, 0xDF, 0xE0, 0xE1, 0xEC,
	0xED, 0xEE, 0xEF, 0xF0, 0xF1, 0xF3, 0xF4, 0xF5, 0xF7, 0xF8, 0xFB, 0xFC, 0xFD, 0xFE, 0xFF}

// eachOf goes through all texts of up to so many of these bytes.
func eachOf(letters []byte, most int, f func(s string)) {
	var grow func(s []byte)
	grow = func(s []byte) {
		f(string(s))
		if len(s) == most {
			return
		}
		for _, b := range letters {
			grow(append(s, b))
		}
	}
	grow(make([]byte, 0, most))
}

// edgeRunes are numbers at both sides of every bound that the words set.
var edgeRunes = []rune{math.MinInt32, -0x110000, -0xD800, -128, -2, -1, 0, 1, 'a', 0x7E, 0x7F, 0x80, 0x81, 0xFF, 0x100,
	0x7FE, 0x7FF, 0x800, 0x801, 0xFFF, 0x1000, 0xCFFF, 0xD000, 0xD7FE, 0xD7FF, 0xD800, 0xD801, 0xDBFF, 0xDC00, 0xDFFE,
	0xDFFF, 0xE000, 0xE001, 0xFFFC, 0xFFFD, 0xFFFE, 0xFFFF, 0x10000, 0x10001, 0x1FFFF, 0x3FFFF, 0x40000, 0xFFFFF,
	0x100000, 0x10FFFE, 0x10FFFF, 0x110000, 0x110001, 0x13FFFF, 0x1FFFFF, 0x200000, 0x10FFFF + 1<<21, math.MaxInt32}

// checkBad asks Bad of a text, of its bytes, and of kinds of the caller's own.
func checkBad(t *testing.T, s string) {
	t.Helper()
	type text string
	type octets []byte
	want := longest(s)
	if got := runes.Bad(s); got != want {
		t.Errorf("Bad(% x): %d, want %d", s, got, want)
	}
	if got := runes.Bad([]byte(s)); got != want {
		t.Errorf("Bad of the bytes % x: %d, want %d", s, got, want)
	}
	if got := runes.Bad(text(s)); got != want {
		t.Errorf("Bad of the text % x: %d, want %d", s, got, want)
	}
	if got := runes.Bad(octets(s)); got != want {
		t.Errorf("Bad of the octets % x: %d, want %d", s, got, want)
	}
}

// P5.1: all texts of up to three bytes at the edges, and of all bytes up to two.
func TestBadShort(t *testing.T) {
	all := make([]byte, 256)
	for i := range all {
		all[i] = byte(i)
	}
	eachOf(all, 2, func(s string) { checkBad(t, s) })
	eachOf(edges, 3, func(s string) { checkBad(t, s) })
	if runes.Bad([]byte(nil)) != 0 {
		t.Error("Bad of no bytes")
	}
}

// P5.1: four bytes behind each first byte, and one more.
func TestBadFour(t *testing.T) {
	further := []byte{0x7F, 0x80, 0x8F, 0x90, 0x9F, 0xA0, 0xBF, 0xC0, 'a'}
	for _, first := range edges {
		eachOf(further, 3, func(s string) {
			s = string([]byte{first}) + s
			checkBad(t, s)
			checkBad(t, "x"+s)
			checkBad(t, s+"x\xC3\xA9")
		})
	}
}

// P5.1, P5.2, P5.3, P5.7: every rune by itself, cut short at every place, and every number that is none.
func TestEveryRune(t *testing.T) {
	for n := -300; n <= 0x110300; n++ {
		s, e := runes.Encode([]rune{rune(n)})
		if !rune32(n) {
			if s != "" || e != (api.Spot{Err: api.ErrUtf}) {
				t.Fatalf("Encode(%x): % x, %v", n, s, e)
			}
			continue
		}
		if s != bytesOf(n) || e != (api.Spot{}) {
			t.Fatalf("Encode(%x): % x, %v, want % x", n, s, e, bytesOf(n))
		}
		if l, e := runes.Decode(s); len(l) != 1 || l[0] != rune(n) || e != (api.Spot{}) {
			t.Fatalf("Decode(% x): %x, %v", s, l, e)
		}
		for cut := 1; cut <= len(s); cut++ {
			want := 0
			if cut == len(s) {
				want = cut
			}
			if got := runes.Bad(s[:cut]); got != want {
				t.Fatalf("Bad(% x): %d, want %d", s[:cut], got, want)
			}
		}
	}
}

// P5.1, P5.2: a number that is written with more bytes than it needs, halves of pairs, and numbers above the
// greatest rune, written as the words would write them.
func TestWrittenWrong(t *testing.T) {
	write := func(n, count int) string {
		b := make([]byte, count)
		for i := count - 1; i > 0; i-- {
			b[i] = byte(0x80 | n%64)
			n /= 64
		}
		b[0] = byte(0xFF<<(8-count)) | byte(n)
		return string(b)
	}
	var wrong []string
	for _, n := range []int{0, 1, 'a', 0x7F} {
		wrong = append(wrong, write(n, 2), write(n, 3), write(n, 4))
	}
	for _, n := range []int{0x80, 0x7FF} {
		wrong = append(wrong, write(n, 3), write(n, 4))
	}
	for _, n := range []int{0x800, 0xD7FF, 0xFFFF} {
		wrong = append(wrong, write(n, 4))
	}
	for n := 0xD800; n <= 0xDFFF; n++ {
		wrong = append(wrong, write(n, 3), write(n, 4))
	}
	for _, n := range []int{0x110000, 0x110001, 0x13FFFF, 0x140000, 0x1FFFFF} {
		wrong = append(wrong, write(n, 4))
	}
	wrong = append(wrong, "\xF8\x88\x80\x80\x80", "\xFC\x84\x80\x80\x80\x80", "\xFE", "\xFF", "\x80", "\xBF")
	for _, w := range wrong {
		for _, ahead := range []string{"", "a", "\u00e9", "\u20ac", "\U0001f4a9", "\ufffd"} {
			for _, behind := range []string{"", "a", "\x80", "\u20ac"} {
				s := ahead + w + behind
				if got := runes.Bad(s); got != len(ahead) {
					t.Errorf("Bad(% x): %d, want %d", s, got, len(ahead))
				}
				if l, e := runes.Decode(s); len(l) != 0 || e != (api.Spot{Err: api.ErrUtf, At: len(ahead)}) {
					t.Errorf("Decode(% x): %x, %v, want ErrUtf at %d", s, l, e, len(ahead))
				}
			}
		}
	}
}

// checkDecode holds Decode against the words (P5.2), and Encode against it (P5.7).
func checkDecode(t *testing.T, s string) {
	t.Helper()
	l, e := runes.Decode(s)
	if at := longest(s); at < len(s) {
		if len(l) != 0 || e != (api.Spot{Err: api.ErrUtf, At: at}) {
			t.Errorf("Decode(% x): %x, %v, want ErrUtf at %d", s, l, e, at)
		}
		return
	}
	if !slices.Equal(l, []rune(s)) || e != (api.Spot{}) {
		t.Errorf("Decode(% x): %x, %v", s, l, e)
	}
	if back, e := runes.Encode(l); back != s || e != (api.Spot{}) {
		t.Errorf("Encode of Decode(% x): % x, %v", s, back, e)
	}
}

// P5.2, P5.7.
func TestDecode(t *testing.T) {
	eachOf(edges, 3, func(s string) { checkDecode(t, s) })
	whole := "a\u0080\u07ff\u0800\ufffd\U00010000\x00\U0010ffff\u007f"
	for cut := range len(whole) + 1 {
		checkDecode(t, whole[:cut])
		checkDecode(t, whole[cut:])
		for _, b := range edges {
			checkDecode(t, whole[:cut]+string([]byte{b})+whole[cut:])
		}
	}
	random := rand.New(rand.NewSource(5))
	for range 20000 {
		var b []byte
		for range random.Intn(12) {
			if random.Intn(4) > 0 {
				b = utf8.AppendRune(b, edgeRunes[random.Intn(len(edgeRunes))])
			} else {
				b = append(b, edges[random.Intn(len(edges))])
			}
		}
		checkDecode(t, string(b))
		checkBad(t, string(b))
	}
}

// checkEncode holds Encode against the words (P5.3), and Decode against it (P5.7).
func checkEncode(t *testing.T, l []rune) {
	t.Helper()
	want, bad := "", -1
	for at, r := range l {
		if !rune32(int(r)) {
			bad = at
			break
		}
		want += bytesOf(int(r))
	}
	s, e := runes.Encode(l)
	if bad >= 0 {
		if s != "" || e != (api.Spot{Err: api.ErrUtf, At: bad}) {
			t.Errorf("Encode(%x): % x, %v, want ErrUtf at %d", l, s, e, bad)
		}
		return
	}
	if s != want || e != (api.Spot{}) {
		t.Errorf("Encode(%x): % x, %v, want % x", l, s, e, want)
	}
	if back, e := runes.Decode(s); !slices.Equal(back, l) || e != (api.Spot{}) {
		t.Errorf("Decode of Encode(%x): %x, %v", l, back, e)
	}
}

// P5.3, P5.7.
func TestEncode(t *testing.T) {
	checkEncode(t, nil)
	checkEncode(t, []rune{})
	for _, a := range edgeRunes {
		checkEncode(t, []rune{a})
		for _, b := range edgeRunes {
			checkEncode(t, []rune{a, b})
			checkEncode(t, []rune{'a', a, 0xFFFD, b, 0xD800})
		}
	}
}

// checkCut feeds a text in pieces that end at the given places, asks behind each piece, and holds what is answered
// against the words (P5.4, P5.9).
func checkCut(t *testing.T, s string, cuts []int) {
	t.Helper()
	c := runes.New()
	from := 0
	for _, to := range append(slices.Clone(cuts), len(s)) {
		feed, whole := canGoOn(s[:to], 3), longest(s[:to]) == to
		for range 2 {
			if got := c.Feed([]byte(s[from:to])); got != feed {
				t.Errorf("% x cut at %v: Feed up to %d: %v", s, cuts, to, got)
			}
			if got := c.Whole(); got != whole {
				t.Errorf("% x cut at %v: Whole at %d: %v", s, cuts, to, got)
			}
			// Once more, with nothing: what it was fed stays what it is.
			from = to
		}
	}
}

// P5.4, P5.9: all texts of few bytes, cut in every way.
func TestCheckerCuts(t *testing.T) {
	letters := []byte{'a', 0x80, 0x8F, 0x90, 0xA0, 0xBF, 0xC1, 0xC3, 0xE0, 0xE2, 0xED, 0xF0, 0xF4, 0xF5}
	eachOf(letters, 3, func(s string) {
		for cuts := range 1 << max(len(s)-1, 0) {
			var at []int
			for i := 1; i < len(s); i++ {
				if cuts>>(i-1)&1 == 1 {
					at = append(at, i)
				}
			}
			checkCut(t, s, at)
		}
	})
}

// P5.4, P5.9: longer texts in pieces of every size, and the same bytes cut in several ways.
func TestCheckerPieces(t *testing.T) {
	whole := "a\u0080\u07ff\u0800\ufffd\U00010000\x00\ud7ff\ue000\U0010ffff\u007f"
	texts := []string{"", whole, whole + "\xF0\x9F\x92", whole + "\x80" + whole, "\xE2" + whole, whole[:9] + whole}
	for _, s := range texts {
		for size := 1; size <= len(s)+1; size++ {
			var cuts []int
			for at := size; at < len(s); at += size {
				cuts = append(cuts, at)
			}
			checkCut(t, s, cuts)
		}
		for at := range len(s) + 1 {
			checkCut(t, s, []int{at})
			checkCut(t, s, []int{at, at})
			checkCut(t, s, []int{0, at / 2, at})
		}
	}
}

// P5.4: behind a false all is false, whatever comes.
func TestCheckerStaysFalse(t *testing.T) {
	for _, wrong := range []string{"\x80", "a\xFF", "\xC3a", "\xE0\x80", "\xED\xA0", "\xF4\x90", "\xE2\x82\x82\x80"} {
		c := runes.New()
		if c.Feed([]byte(wrong)) {
			t.Errorf("Feed(% x): true", wrong)
		}
		for _, more := range []string{"", "a", "\x80", "\x80\x80", "\xC3\xA9", strings.Repeat("a", 300)} {
			if c.Whole() || c.Feed([]byte(more)) || c.Whole() || c.Feed(nil) {
				t.Errorf("% x, then % x: true", wrong, more)
			}
		}
	}
}

// P5.4, R1: a checker that was fed nothing, and one that is not there.
func TestCheckerNothing(t *testing.T) {
	c := runes.New()
	if !c.Whole() || !c.Feed(nil) || !c.Feed([]byte{}) || !c.Whole() {
		t.Error("a checker that was fed nothing")
	}
	for _, none := range []*runes.Checker{nil, {}, new(runes.Checker)} {
		for _, b := range []string{"", "a", "\xC3\xA9", "\x80"} {
			if none.Whole() || none.Feed([]byte(b)) || none.Whole() {
				t.Errorf("a checker that is not there, fed % x", b)
			}
		}
	}
}

// R2: checkers do not see one another.
func TestCheckersApart(t *testing.T) {
	a, b := runes.New(), runes.New()
	if !a.Feed([]byte{0xE2}) || !b.Whole() || !b.Feed([]byte("x")) || a.Whole() {
		t.Error("two checkers")
	}
	if b.Feed([]byte{0x80}) || !a.Feed([]byte{0x82, 0xAC}) || !a.Whole() || b.Whole() || !runes.New().Whole() {
		t.Error("two checkers, one behind a wrong byte")
	}
}

// R3: what is handed in stays as it is, with the room behind its end, and is not kept.
func TestUtfKeepsNothing(t *testing.T) {
	store := []byte("a\xC3\xA9\xE2\x82\xACzz\x80")
	before := bytes.Clone(store)
	b := store[:5:len(store)]
	c := runes.New()
	if runes.Bad(b) != 3 || !c.Feed(b) || !bytes.Equal(store, before) {
		t.Errorf("bytes were changed: % x", store)
	}
	for i := range store {
		store[i] = 0xFF
	}
	if !c.Feed([]byte{0xAC}) || !c.Whole() {
		t.Error("the checker sees what the caller wrote")
	}

	list := []rune{'a', 0xE9, 0x20AC, 7, 8}
	was := slices.Clone(list)
	s, _ := runes.Encode(list[:3])
	if !slices.Equal(list, was) {
		t.Errorf("runes were changed: %x", list)
	}
	list[0], list[1] = 'x', 'y'
	if s != "a\xC3\xA9\xE2\x82\xAC" {
		t.Errorf("the text follows the list: % x", s)
	}
}

// R3: what is handed out is new memory, spare room too.
func TestDecodeNewMemory(t *testing.T) {
	for _, s := range []string{"", "a", "a\u00e9\u20ac\U0001f4a9", strings.Repeat("\u20ac", 100)} {
		first, _ := runes.Decode(s)
		first = first[:cap(first)]
		for i := range first {
			first[i] = 'x'
		}
		second, e := runes.Decode(s)
		if !slices.Equal(second, []rune(s)) || e != (api.Spot{}) {
			t.Errorf("Decode(%q) behind writing to its answer: %x, %v", s, second, e)
		}
	}
}
