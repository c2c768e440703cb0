package word_test

import (
	"encoding/base64"
	"math/rand"
	"strings"
	"testing"
	"unicode/utf8"

	"posthorn/word"
)

// inB and inQ are one word of a text that is written already.
func inB(text string) string { return "=?UTF-8?B?" + text + "?=" }
func inQ(text string) string { return "=?UTF-8?Q?" + text + "?=" }

// notUTF8 are bytes that are no UTF-8: such as begin nothing, runes cut short, overlong ones, surrogates, numbers too great.
var notUTF8 = []string{
	"\x80", "\xbf", "\xc0", "\xc1", "\xf5", "\xf8", "\xfc", "\xfe", "\xff", "\xa9\xc3", "\xc3\xa9\xa9",
	"\xc2", "\xdf", "\xe0", "\xe0\xa0", "\xe2\x82", "\xed\x9f", "\xef\xbf", "\xf0\x90", "\xf0\x9f\x92", "\xf4\x8f\xbf", "\xc3\xc3\xa9", "\xe2\x82\xe2\x82\xac", "\xc3\x28", "\xe2\x28\xa1", "\xe2\x82\x28", "\xf0\x9f\x92\x28",
	"\xc0\x80", "\xc0\xaf", "\xc1\xbf", "\xe0\x80\x80", "\xe0\x9f\xbf", "\xf0\x80\x80\x80", "\xf0\x8f\xbf\xbf", "\xf8\x88\x80\x80\x80", "\xfc\x84\x80\x80\x80\x80",
	"\xed\xa0\x80", "\xed\xaf\xbf", "\xed\xb0\x80", "\xed\xbf\xbf", "\xed\xa0\xbd\xed\xb2\xa9",
	"\xf4\x90\x80\x80", "\xf5\x80\x80\x80", "\xf7\xbf\xbf\xbf", "\xfb\xbf\xbf\xbf\xbf",
}

// edges are runes of every length, the first and the last ones of each, and others.
var edges = []string{"\x00", "a", " ", "=", "?", "_", "\x7f", "\u0080", "\u00e9", "\u07ff", "\u0800", "\u20ac", "\ud7ff", "\ue000", "\ufffd", "\uffff", "\U00010000", "\U0001f4a9", "\U0010ffff"}

// P17.1: of no text no text comes.
func TestEncodeOfNothing(t *testing.T) {
	wantEncode(t, "", false, "")
	wantEncode(t, "", true, "")
}

// P17.1: what is no UTF-8 is not written, wherever it stands.
func TestEncodeOfNoUTF8(t *testing.T) {
	for _, s := range notUTF8 {
		for _, around := range []string{"", "a", " ", "\u00e9", "\U0001f4a9", strings.Repeat("a", 45), strings.Repeat("x", 200), strings.Repeat("\u20ac", 50)} {
			wantNoUTF8(t, s+around)
			wantNoUTF8(t, around+s)
			wantNoUTF8(t, around+s+around)
			wantNoUTF8(t, s+around+s)
		}
	}
	for b := range 256 {
		one := string([]byte{byte(b)})
		for _, s := range []string{one, "a" + one, one + "a", "\u00e9" + one, one + "\u00e9", one + one} {
			agreeEncode(t, s)
			if b > 127 {
				wantNoUTF8(t, s)
			}
		}
	}
}

// P17.1: all pairs of bytes, and more of those with which runes go on.
func TestEncodeOfAllPairs(t *testing.T) {
	for b := range 1 << 16 {
		agreeEncode(t, string([]byte{byte(b >> 8), byte(b)}))
	}
	eachText([]string{"a", "\x80", "\x90", "\xa0", "\xbf", "\xc2", "\xe0", "\xed", "\xf0", "\xf4"}, 5, func(s string) { agreeEncode(t, s) })
}

// P17.1: the first and the last runes of every length are written, also the one that a range tells of wrong bytes.
func TestEncodeOfEdges(t *testing.T) {
	for _, a := range edges {
		for _, b := range append(edges, "") {
			agreeEncode(t, a+b)
			agreeEncode(t, "abcdefgh"+a+b+"ij")
		}
	}
	wantEncode(t, "\ufffd", true, inB("77+9"))
	wantEncode(t, "\x00", false, inB("AA=="))
}

// P17.1: how each byte is written in Q, in texts so long that Q is shorter.
func TestEachByteInQ(t *testing.T) {
	const itself = "ABCDEFGHIJKLMNOPQRSTUVWXYZabcdefghijklmnopqrstuvwxyz0123456789!*+-/"
	for b := range 128 {
		c := string([]byte{byte(b)})
		want := "=" + string("0123456789ABCDEF"[b/16]) + string("0123456789ABCDEF"[b%16])
		switch {
		case strings.Contains(itself, c):
			want = c
		case c == " ":
			want = "_"
		}
		wantEncode(t, "abcdefgh"+c+"ijkl", true, inQ("abcdefgh"+want+"ijkl"))
		wantEncode(t, c+"abcdefghijkl", true, inQ(want+"abcdefghijkl"))
		wantEncode(t, "abcdefghijkl"+c, true, inQ("abcdefghijkl"+want))
		wantEncode(t, c, false, inB(base64.StdEncoding.EncodeToString([]byte(c))))
	}
	wantEncode(t, "abcdefghijklmnopqrst\u00e9\u20ac", true, inQ("abcdefghijklmnopqrst=C3=A9=E2=82=AC"))
	wantEncode(t, "abcdefghijklmnopqrstuvw\U0010ffff", true, inQ("abcdefghijklmnopqrstuvw=F4=8F=BF=BF"))
}

// P17.1: Q is taken only where it is asked for, and shorter: not where it is as long.
func TestWhichIsShorter(t *testing.T) {
	for _, c := range []struct{ s, b, q string }{ // no q: it is not shorter
		{"a", "YQ==", "a"}, {"=", "PQ==", "=3D"}, {"ab", "YWI=", "ab"}, {"a=", "YT0=", ""}, {"==", "PT0=", ""}, {"\u00e9", "w6k=", ""}, {"abc", "YWJj", "abc"}, {"ab=", "YWI9", ""}, {"abcd", "YWJjZA==", "abcd"}, {"abc=", "YWJjPQ==", "abc=3D"},
		{"ab==", "YWI9PQ==", ""}, {"ab\u00e9", "YWLDqQ==", ""}, {"abc\u00e9", "YWJjw6k=", ""}, {"abcdefgh\u00e9", "YWJjZGVmZ2jDqQ==", "abcdefgh=C3=A9"}, {" ", "IA==", "_"}, {"   ", "ICAg", "___"}, {"\u20ac", "4oKs", ""}, {"\U0001f4a9", "8J+SqQ==", ""},
	} {
		wantEncode(t, c.s, false, inB(c.b))
		if c.q == "" {
			wantEncode(t, c.s, true, inB(c.b))
		} else {
			wantEncode(t, c.s, true, inQ(c.q))
		}
	}
	count := map[string]int{}
	eachText([]string{"a", " ", "=", "\u00e9", "\u20ac", "xyz"}, 6, func(s string) {
		b, brief := agreeEncode(t, s)
		one := len(inQ(modelQuote(s)))
		switch {
		case s == "" || one > 75:
		case one < len(b):
			count["shorter"]++
		case one > len(b):
			count["longer"]++
		default:
			count["as long"]++
		}
		if s != "" && one <= 75 && (brief == b) != (one >= len(b)) {
			t.Fatalf("Encode(%q, true): %q, without short %q", s, brief, b)
		}
	})
	if count["shorter"] < 100 || count["as long"] < 100 || count["longer"] < 100 {
		t.Fatalf("not all kinds came: %v", count)
	}
}

// P17.1: in B a word has up to 45 bytes, and less only where the next rune would go beyond.
func TestFullWordsInB(t *testing.T) {
	x := func(n int) string { return strings.Repeat("x", n) }
	word := func(s string) string { return inB(base64.StdEncoding.EncodeToString([]byte(s))) }
	for _, c := range []struct{ first, second string }{
		{x(44), ""}, {x(45), ""}, {x(45), "x"}, {x(45), x(44)}, {x(45), x(45)}, {x(45), "\u00e9"}, {x(43) + "\u00e9", ""}, {x(43) + "\u00e9", "x"}, {x(44), "\u00e9"}, {x(42) + "\u20ac", ""}, {x(43), "\u20ac"}, {x(44), "\u20ac"}, {x(45), "\u20ac"},
		{x(41) + "\U0001f4a9", "x"}, {x(42), "\U0001f4a9"}, {x(43), "\U0001f4a9x"}, {x(44), "\U0001f4a9"}, {x(45), "\U0001f4a9"}, {x(44), "\u00e9" + x(43)}, {strings.Repeat("\u20ac", 15), "\u20ac"}, {strings.Repeat("\u00e9", 22), "\u00e9"}, {strings.Repeat("\U0001f4a9", 11), "\U0001f4a9"}, {strings.Repeat("\U0001f4a9", 11) + "x", "\U0001f4a9"},
	} {
		want := word(c.first)
		if c.second != "" {
			want += " " + word(c.second)
		}
		wantEncode(t, c.first+c.second, false, want)
	}
	if n := len(word(x(45))); n != 72 {
		t.Fatalf("a full word has %d bytes", n)
	}
}

// P17.1: in Q a word has up to 63 letters, and less only where the next rune would go beyond; no rune is cut.
func TestFullWordsInQ(t *testing.T) {
	x := func(n int) string { return strings.Repeat("x", n) }
	for _, c := range []struct{ first, second string }{
		{x(62), ""}, {x(63), ""}, {x(63), "x"}, {x(63), x(62)}, {x(63), x(63)}, {x(62) + " ", "x"}, {x(60) + "=", ""}, {x(61), "="}, {x(62), "=x"}, {x(63), "="}, {x(57) + "\u00e9", "x"}, {x(58), "\u00e9"}, {x(59), "\u00e9"}, {x(60), "\u00e9"}, {x(61), "\u00e9"}, {x(62), "\u00e9"}, {x(63), "\u00e9"},
		{x(54) + "\u20ac", "x"}, {x(55), "\u20ac"}, {x(60), "\u20acx"}, {x(63), "\u20ac"}, {x(51) + "\U0001f4a9", ""}, {x(51) + "\U0001f4a9", "x"}, {x(52), "\U0001f4a9"}, {x(55), "\U0001f4a9"}, {x(58), "\U0001f4a9" + x(51)}, {x(61), "\U0001f4a9"}, {x(63), "\U0001f4a9"},
	} {
		want := inQ(modelQuote(c.first))
		if c.second != "" {
			want += " " + inQ(modelQuote(c.second))
		}
		wantEncode(t, c.first+c.second, true, want)
	}
	if n := len(inQ(x(63))); n != 75 {
		t.Fatalf("a full word has %d bytes", n)
	}
}

// P17.1: texts of every length about the place at which a word is full, with every kind of rune there.
func TestEveryLength(t *testing.T) {
	for _, fill := range []string{"x", " ", "=", "\u00e9", "\u20ac", "\U0001f4a9", "xxxxxxxx\u00e9"} {
		for n := range 140 {
			ahead := strings.Repeat(fill, n)
			agreeEncode(t, ahead)
			for _, r := range []string{"x", " ", "=", "\u00e9", "\u20ac", "\U0001f4a9"} {
				for _, behind := range []string{"", "x", "\u00e9", r, r + r} {
					agreeEncode(t, ahead+r+behind)
				}
			}
		}
	}
	for lead := range 8 {
		for n := range 80 {
			for _, r := range []string{"=", "\u00e9", "\u20ac", "\U0001f4a9"} {
				agreeEncode(t, strings.Repeat("x", lead)+strings.Repeat(r, n))
			}
		}
	}
}

// P17.1: texts of many words.
func TestManyWords(t *testing.T) {
	for _, s := range []string{"x", " ", "=", "\u00e9", "\u20ac", "\U0001f4a9", "a b\u00e9", "=?UTF-8?Q?a?= "} {
		agreeEncode(t, strings.Repeat(s, 5000))
	}
	long := strings.Repeat("abcdefg\u00e9", 200000)
	for _, brief := range []bool{false, true} {
		text, _ := word.Encode(long, brief)
		wantFit(t, text)
		wantDecode(t, text, long)
	}
}

// anyRunes is a text of runes of all kinds; mostly shown ones, if wide is 0.
func anyRunes(random *rand.Rand, wide int) string {
	var s strings.Builder
	for range random.Intn(160) {
		switch n := random.Intn(10); {
		case n >= wide:
			s.WriteByte(" !*+-/=?_.azAZ09"[random.Intn(16)])
		case n%2 == 0:
			s.WriteString(edges[random.Intn(len(edges))])
		default:
			s.WriteRune(rune(random.Intn(utf8.MaxRune + 1)))
		}
	}
	return s.String()
}

// P17.1: any texts, and such of any bytes.
func TestEncodeOfAnyTexts(t *testing.T) {
	random := rand.New(rand.NewSource(171))
	for range 8000 {
		s := anyRunes(random, random.Intn(11))
		agreeEncode(t, s)
		if b := []byte(s); len(b) > 0 {
			b[random.Intn(len(b))] = byte(random.Intn(256))
			agreeEncode(t, string(b))
		}
	}
}
