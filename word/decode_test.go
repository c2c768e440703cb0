package word_test

import (
	"encoding/base64"
	"fmt"
	"math/rand"
	"strings"
	"testing"

	"posthorn/api"
	"posthorn/code"
)

// nearly are words that are nearly encoded, and such as are far from it.
var nearly = []string{
	"=", "?", "=?", "?=", "=?=", "=??", "??=", "=??=", "=???", "=???=", "=????=", "=?????=", "????", "=?=?=?=?=", "=?UTF-8", "=?UTF-8?", "=?UTF-8?Q", "=?UTF-8?Q?", "=?UTF-8?Q?a", "=?UTF-8?Q?a?", "=?UTF-8?Q?=", "=?UTF-8?Q?a=", "=?UTF-8?=",
	"=??Q?a?=", "=??B?YQ==?=", "=??Q??=", "=?Q?a?=", "=?UTF-8??a?=", "=?UTF-8?a?=", "=?UTF-8?X?a?=", "=?UTF-8?QQ?a?=", "=?UTF-8?QB?a?=", "=?UTF-8?b8?a?=", "=?UTF-8?@?a?=", "=?UTF-8?P?a?=", "=?UTF-8?R?a?=", "=?UTF-8?A?a?=", "=?UTF-8?C?a?=", "=?UTF-8?2?a?=",
	"=?UTF-8?Q?a?b?=", "=?UTF-8?Q?a??=", "=?UTF-8?Q??a?=", "=??UTF-8?Q?a?=", "=?UTF?8?Q?a?=", "=?UTF-8?Q?a?=?=", "=?UTF-8?B?YQ==??=", "=?UTF-8?B??=?=", "=?UTF-8?Q?a?=x", "x=?UTF-8?Q?a?=", "(=?UTF-8?Q?a?=)", "\"=?UTF-8?Q?a?=\"", "=?UTF-8?Q?a?=,",
	"=?UTF-8?Q?a?==?UTF-8?Q?b?=", "=?UTF-8?Q?a?=\r\n", "\r\n=?UTF-8?Q?a?=", "=?UTF-8?Q?a\r\n?=", "=?UTF-8?Q?a\u00e9?=", "=?UTF-8\xff?Q?a?=", "=?UTF-8?Q\x00?a?=", "=?UTF-8?Q?\x7f?=", "=?UTF-8?Q?a?=\x80", "\x01=?UTF-8?Q?a?=", "==?UTF-8?Q?a?=", "=?UTF-8?Q?a?==", "?UTF-8?Q?a?=", "=UTF-8?Q?a?=", "=?UTF-8?Q?a?",
}

// gaps are all gaps of up to three blanks and tabs, and long ones.
func gaps() (l []string) {
	eachText([]string{" ", "\t"}, 3, func(s string) {
		if s != "" {
			l = append(l, s)
		}
	})
	return append(l, strings.Repeat(" ", 100), strings.Repeat("\t", 100)+" ")
}

// P17.2: texts without encoded words stay as they are, whatever their bytes are.
func TestTextsWithoutEncodedWords(t *testing.T) {
	for _, s := range []string{"", " ", "\t \t", "a", "a b", "  a\t b  ", "\r\n", "a\r\n b", "\xff", "\x00\xc3 \xa9", "Gr\u00fc\u00dfe", "a=41_b", "=41", "_"} {
		wantDecode(t, s, s)
	}
	for b := range 1 << 16 {
		s := string([]byte{byte(b >> 8), byte(b)})
		wantDecode(t, s, s)
	}
	eachText([]string{"=", "?", "Q", " ", "\xe9"}, 8, func(s string) {
		if agreeDecode(t, s) == (api.Spot{}) && !strings.Contains(s, "?Q?") {
			wantDecode(t, s, s)
		}
	})
}

// P17.2: encoded words by themselves.
func TestEncodedWords(t *testing.T) {
	for _, c := range [][2]string{
		{"=?UTF-8?Q?a?=", "a"}, {"=?UTF-8?q?a?=", "a"}, {"=?UTF-8?B?YQ==?=", "a"}, {"=?UTF-8?b?YQ==?=", "a"}, {"=?UTF-8?Q??=", ""}, {"=?UTF-8?B??=", ""}, {"=?us-ascii?Q??=", ""}, {"=?iso-8859-1?b??=", ""},
		{"=?UTF-8?Q?_?=", " "}, {"=?UTF-8?Q?=5F?=", "_"}, {"=?UTF-8?Q?=3D?=", "="}, {"=?UTF-8?Q?=3F=?", "=?UTF-8?Q?=3F=?"}, {"=?UTF-8?Q?=3f?=", "?"}, {"=?UTF-8?Q?=00=0D=0A=09=20?=", "\x00\r\n\t "}, {"=?UTF-8?B?AA0KCSA=?=", "\x00\r\n\t "},
		{"=?UTF-8?Q?=C3=A9?=", "\u00e9"}, {"=?UTF-8?Q?=e2=82=aC=F0=9f=92=A9?=", "\u20ac\U0001f4a9"}, {"=?UTF-8?B?8J+SqQ==?=", "\U0001f4a9"}, {"=?UTF-8?Q?!\"#$%&'()*+,-./:;<>@[\\]^`{|}~?=", "!\"#$%&'()*+,-./:;<>@[\\]^`{|}~"},
		{"=?ISO-8859-1?B?6Q==?=", "\u00e9"}, {"=?ISO-8859-1?Q?=80=9f=A0=ff?=", "\u0080\u009f\u00a0\u00ff"}, {"=?ISO-8859-1?Q?=C3=A9?=", "\u00c3\u00a9"}, {"=?US-ASCII?B?YQ==?=", "a"}, {"=?US-ASCII?Q?=7f=00?=", "\x7f\x00"},
		{"=?UTF-8?Q?" + strings.Repeat("x", 5000) + "?=", strings.Repeat("x", 5000)}, {"=?UTF-8*" + strings.Repeat("x", 5000) + "?Q?a?=", "a"},
	} {
		wantDecode(t, c[0], c[1])
		agree(t, c[0])
	}
	// What is told is not read once more.
	wantDecode(t, "=?UTF-8?Q?=3D=3FUTF-8=3FQ=3Fa=3F=3D?=", "=?UTF-8?Q?a?=")
	wantDecode(t, "=?UTF-8?Q?=3D3D?= =?UTF-8?Q?_?= =?UTF-8?Q?=3F?=", "=3D ?")
}

// P17.2: a gap between two encoded words is left out, every other one stays.
func TestGaps(t *testing.T) {
	const a, b, c = "=?UTF-8?Q?a?=", "=?iso-8859-1?b?6Q==?=", "=?us-ascii?q?_c_?="
	for _, g := range gaps() {
		wantDecode(t, a+g+b, "a\u00e9")
		wantDecode(t, a+g+b+g+c, "a\u00e9 c ")
		wantDecode(t, g+a+g+b+g, g+"a\u00e9"+g)
		wantDecode(t, a+g+"x", "a"+g+"x")
		wantDecode(t, "x"+g+a, "x"+g+"a")
		wantDecode(t, "x"+g+a+g+b+g+"y"+g+c, "x"+g+"a\u00e9"+g+"y"+g+" c ")
		wantDecode(t, a+g+"x"+g+b, "a"+g+"x"+g+"\u00e9")
		wantDecode(t, "x"+g+"y"+g, "x"+g+"y"+g)
		wantDecode(t, g, g)
		wantDecode(t, g+a, g+"a")
		wantDecode(t, a+g, "a"+g)
		wantDecode(t, "=?UTF-8?Q??="+g+"=?UTF-8?B??=", "")
		for _, w := range nearly {
			wantDecode(t, a+g+w+g+b, "a"+g+w+g+"\u00e9")
			wantDecode(t, w+g+a+g+b+g+w, w+g+"a\u00e9"+g+w)
		}
	}
	// Other bytes that may be taken for blanks are none.
	for _, s := range []string{"\r\n", "\n", "\r", "\v", "\f", "\x00", "\x85", "\u00a0", "\u2003", "\xa0"} {
		wantDecode(t, a+s+b, a+s+b)
		wantDecode(t, a+" "+s+" "+b, "a "+s+" \u00e9")
	}
}

// P17.2: all rows of encoded words, others, and what may stand between them.
func TestAllRowsOfWords(t *testing.T) {
	told := map[api.Errno]int{}
	eachText([]string{" ", "\t", "=?utf-8?q?a?=", "=?iso-8859-1?B?6Q==?=", "x", "=?x?q??=", "=?UTF-8?Q?=?="}, 6, func(s string) { told[agree(t, s).Err]++ })
	eachText([]string{"=?", "?=", "?", "UTF-8", "Q", "B", "=4", "1", " "}, 5, func(s string) { told[agree(t, s).Err]++ })
	eachText([]string{"?", "=", "Q", "b", "_", "A", " "}, 4, func(s string) {
		told[agree(t, "=?utf-8?Q?"+s+"?=").Err]++
		told[agree(t, "=?"+s+"?=").Err]++
		told[agree(t, "=?utf-8"+s+"?b?"+s+"?=").Err]++
		told[agree(t, "=?us-ascii?B?"+s+"QQ==?="+s).Err]++
	})
	if told[api.OK] < 1000 || told[api.ErrCharset] < 1000 || told[api.ErrWord] < 1000 {
		t.Fatalf("not all kinds came: %v", told)
	}
}

// P17.2: words that are nearly encoded stay as they are.
func TestNearlyEncodedWords(t *testing.T) {
	for _, w := range nearly {
		wantDecode(t, w, w)
		wantDecode(t, " "+w+"\t", " "+w+"\t")
		wantDecode(t, w+" "+w, w+" "+w)
		agree(t, w)
		for _, c := range []string{"x", "=", "?", " ", "\x80"} {
			for at := range len(w) + 1 {
				agree(t, w[:at]+c+w[at:])
			}
		}
	}
}

// P17.2: every byte at every place of encoded words: in the place of another one, and between two.
func TestEveryByteAtEveryPlace(t *testing.T) {
	for _, w := range []string{"=?UTF-8?Q?a=41_?=", "=?utf-8*en?b?w6k=?=", "=?ISO-8859-1?q?=e9?=", "=?us-ascii?B?YWI=?=", "x =?UTF-8?B??= =?UTF-8?Q??= y"} {
		for at := range len(w) + 1 {
			for b := range 256 {
				c := string([]byte{byte(b)})
				agree(t, w[:at]+c+w[at:])
				if at < len(w) {
					agree(t, w[:at]+c+w[at+1:])
				}
			}
			agree(t, w[:at])
			agree(t, w[at:])
		}
	}
}

// P17.2: charsets in any capitals, with a star and what follows it.
func TestKnownCharsets(t *testing.T) {
	for _, name := range []string{"utf-8", "us-ascii", "iso-8859-1"} {
		for bits := range 1 << len(name) {
			b := []byte(name)
			for i := range b {
				if bits>>i&1 == 1 && 'a' <= b[i] && b[i] <= 'z' {
					b[i] -= 32
				}
			}
			wantDecode(t, "=?"+string(b)+"?Q?a_b?=", "a b")
		}
		for _, behind := range []string{"*", "*en", "*EN-us", "**", "*en*fr", "*=", "*utf-9", "*,;:\"<>@[]\\"} {
			wantDecode(t, "=?"+name+behind+"?b?YSBi?=", "a b")
			wantDecode(t, "=?"+strings.ToUpper(name)+behind+"?Q?a_b?=", "a b")
		}
	}
	// The charset that is named ahead of the star says what the bytes mean.
	wantDecode(t, "=?iso-8859-1*utf-8?q?=c3=a9?=", "\u00c3\u00a9")
	wantDecode(t, "=?utf-8*iso-8859-1?q?=c3=a9?=", "\u00e9")
}

// P17.2: charsets that are not known, each told at its place.
func TestUnknownCharsets(t *testing.T) {
	for _, name := range []string{"x", "*", "**", "*utf-8", "*utf-8*", "utf8", "utf-8-", "utf-88", "utf-", "xutf-8", "utf_8", "utf-8;", "utf-16", "ascii", "us-asci", "us_ascii", "us-asciii", "us-ascii=", "iso-8859-15", "iso-8859-", "iso-8859-2", "iso8859-1", "latin1", "iso-8859-1:1987", "q", "=", "-", "Q*en", "u*tf-8"} {
		for _, rest := range []string{"?Q?a?=", "?q??=", "?B?YQ==?=", "?b?!?=", "?Q?=?=", "?Q?=FF?="} {
			wantSpot(t, "=?"+name+rest, api.ErrCharset, 2)
			wantSpot(t, "a \t=?"+name+rest+" b", api.ErrCharset, 5)
			wantSpot(t, "=?utf-8?q?a?= =?"+name+rest, api.ErrCharset, 16)
		}
	}
}

// P17.2: what can't be read in B, each with its place.
func TestWrongTextsInB(t *testing.T) {
	for _, c := range []struct {
		text string
		at   int
	}{
		{"T", 1}, {"TQ", 2}, {"TQ=", 3}, {"TWE", 3}, {"TWF=", 3}, {"TR==", 2}, {"T===", 1}, {"=", 0}, {"====", 0}, {"TQ=A", 3}, {"TQ==TQ==", 4}, {"TWFuT", 5}, {"!", 0}, {"T!", 1}, {"TQ==!", 4}, {"TWFu-", 4}, {"TWFu_w==", 4}, {"TWFuTWFuTWF=", 11}, {"\"TWFu\"", 0}, {"TQ=41", 3},
	} {
		wantSpot(t, "=?utf-8?b?"+c.text+"?=", api.ErrWord, 10+c.at)
		wantSpot(t, "x =?ISO-8859-1?B?"+c.text+"?= =?x?q??=", api.ErrWord, 17+c.at)
	}
	wrong := 0
	eachText([]string{"A", "Q", "w", "=", "-"}, 6, func(s string) {
		_, spot := code.Unbase64(s)
		if got := agree(t, "=?iso-8859-1?b?"+s+"?="); got.Err != api.OK {
			wrong++
			wantSpot(t, "=?iso-8859-1?b?"+s+"?=", api.ErrWord, 15+spot.At)
		}
	})
	if wrong < 1000 {
		t.Fatalf("only %d wrong texts came", wrong)
	}
}

// P17.2: in Q, digits in any capitals say every byte; ISO-8859-1 knows each of them, whichever way it is written.
func TestEveryByteWritten(t *testing.T) {
	for b := range 256 {
		one := string(rune(b))
		for _, form := range []string{"=%02X", "=%02x", "=%X%x", "=%x%X"} {
			pair := fmt.Sprintf(form, b)
			if strings.Count(form, "%") == 2 {
				pair = fmt.Sprintf(form, b>>4, b&15)
			}
			wantDecode(t, "=?iso-8859-1?Q?"+pair+"?=", one)
			wantDecode(t, "=?iso-8859-1?q?0"+pair+"0?=", "0"+one+"0")
			if b < 128 {
				wantDecode(t, "=?us-ascii?q?"+pair+pair+"?=", one+one)
				wantDecode(t, "=?utf-8?q?"+pair+"?=", one)
				continue
			}
			wantSpot(t, "=?us-ascii?q?"+pair+"?=", api.ErrWord, 13)
			wantSpot(t, "=?us-ascii?q?abc"+pair+"?=", api.ErrWord, 13)
			wantSpot(t, "=?utf-8?q?abc"+pair+"?=", api.ErrWord, 10)
		}
		text := base64.StdEncoding.EncodeToString([]byte{byte(b)})
		wantDecode(t, "=?iso-8859-1?B?"+text+"?=", one)
		if b < 128 {
			wantDecode(t, "=?us-ascii?B?"+text+"?=", one)
		} else {
			wantSpot(t, " =?us-ascii?B?"+text+"?=", api.ErrWord, 14)
		}
	}
	for b := 33; b < 127; b++ {
		if c := string(rune(b)); !strings.Contains("=?_", c) {
			wantDecode(t, "=?utf-8?Q?"+c+"?=", c)
			wantDecode(t, "=?iso-8859-1?Q?"+c+c+"?=", c+c)
		}
	}
}

// P17.2: an = behind which no two digits stand, told at its place: every pair of bytes behind it.
func TestWrongTextsInQ(t *testing.T) {
	for _, c := range []struct {
		text string
		at   int
	}{
		{"=", 0}, {"=4", 0}, {"a=", 1}, {"a=4", 1}, {"==41", 0}, {"=4=41", 0}, {"=41=", 3}, {"=41=4", 3}, {"=G1", 0}, {"=1G", 0}, {"=g1", 0}, {"=4_", 0}, {"=_4", 0}, {"=+4", 0}, {"=-1", 0}, {"=0x41", 0}, {"___=", 3}, {"=4142=4", 5}, {"=41=4G=4", 3}, {"a=b", 1}, {"=@0", 0}, {"=/0", 0}, {"=:0", 0}, {"=`0", 0}, {"=FF=F", 3},
	} {
		wantSpot(t, "=?utf-8?q?"+c.text+"?=", api.ErrWord, 10+c.at)
		wantSpot(t, "=?utf-8?q?a?=\t=?us-ascii*x?Q?"+c.text+"?= y", api.ErrWord, 29+c.at)
	}
	for a := 33; a < 127; a++ {
		for b := 33; b < 127; b++ {
			agree(t, "=?iso-8859-1?q?x="+string(rune(a))+string(rune(b))+"?=")
		}
	}
	eachText([]string{"=", "4", "f", "G", "_"}, 6, func(s string) { agree(t, "=?iso-8859-1?q?"+s+"?=") })
}

// P17.2: bytes that are no UTF-8, in B and in Q; a rune that goes from one word into the next is in neither.
func TestBytesThatMeanNothing(t *testing.T) {
	for _, s := range notUTF8 {
		for _, around := range []string{"", "a", "\u00e9"} {
			for _, bytes := range []string{s + around, around + s} {
				b, q := base64.StdEncoding.EncodeToString([]byte(bytes)), modelQuote(bytes)
				wantSpot(t, "=?utf-8?b?"+b+"?=", api.ErrWord, 10)
				wantSpot(t, "x =?utf-8*?q?"+q+"?=", api.ErrWord, 13)
				wantSpot(t, "=?us-ascii?q?"+q+"?=", api.ErrWord, 13)
				agree(t, "=?iso-8859-1?q?"+q+"?= =?iso-8859-1?b?"+b+"?=")
			}
		}
	}
	wantSpot(t, "=?UTF-8?Q?=c3?= =?UTF-8?Q?=a9?=", api.ErrWord, 10)
	wantSpot(t, "=?UTF-8?Q?a?= =?UTF-8?B?4oI=?= =?UTF-8?B?rA==?=", api.ErrWord, 24)
	for b := range 1 << 16 {
		agree(t, fmt.Sprintf("=?utf-8?Q?=%02X=%02x?=", b>>8, b&255))
	}
}

// P17.2: of several errors the first word's is told, and of one word the charset's, then the text's, then what it means.
func TestWhichErrorIsTold(t *testing.T) {
	wrong := []struct {
		w  string
		e  api.Errno
		at int
	}{
		{"=?x?q?a?=", api.ErrCharset, 2}, {"=?x?q?=?=", api.ErrCharset, 2}, {"=?x?b?!?=", api.ErrCharset, 2}, {"=?x?b?/w==?=", api.ErrCharset, 2}, {"=?utf-8?q?a=?=", api.ErrWord, 11}, {"=?utf-8?q?=ff=?=", api.ErrWord, 13}, {"=?utf-8?b?//!?=", api.ErrWord, 12}, {"=?us-ascii?b?/w?=", api.ErrWord, 15}, {"=?utf-8?q?a=ff?=", api.ErrWord, 10}, {"=?us-ascii?q?ab=c3=a9?=", api.ErrWord, 13}, {"=?utf-8?b?Yf8=?=", api.ErrWord, 10},
	}
	for _, a := range wrong {
		for _, ahead := range []string{"", " ", "a ", "=?utf-8?q?a?= ", "=?x?q?a?=x ", "=?x?q?\xff?= \t"} {
			wantSpot(t, ahead+a.w, a.e, len(ahead)+a.at)
			for _, b := range wrong {
				wantSpot(t, ahead+a.w+" "+b.w, a.e, len(ahead)+a.at)
				wantSpot(t, ahead+a.w+" x =?utf-8?q?a?=\t"+b.w+" \xff", a.e, len(ahead)+a.at)
			}
		}
	}
}

// P17.2: texts of many words, and words of many bytes.
func TestDecodeOfGreatTexts(t *testing.T) {
	const n = 100000
	agree(t, strings.Repeat("=?iso-8859-1?q?=e9?= \t", n))
	agree(t, strings.Repeat("=?utf-8?b?YQ==?= x ", n))
	agree(t, strings.Repeat("?", n)+" "+strings.Repeat("=?", n)+" =?"+strings.Repeat("?=", n)+strings.Repeat(" ", n))
	agree(t, "=?iso-8859-1?b?"+strings.Repeat("6enp", n)+"?=")
	agree(t, "=?utf-8?q?"+strings.Repeat("=c3=A9_", n)+"?=")
	wantSpot(t, strings.Repeat("=?utf-8?b?YQ==?= ", n)+"=?utf-8?b?YQ=?=", api.ErrWord, 17*n+13)
}

// anyHeader is a text of encoded words, nearly encoded ones and others, most of them right.
func anyHeader(random *rand.Rand) string {
	right := []string{"a", "Re:", "=?utf-8?q?a?=", "=?UTF-8?B?w6k=?=", "=?iso-8859-1*de?Q?=e9_?=", "=?us-ascii?b?YWJj?=", "=?utf-8?Q??=", "\u00e9", "\xff"}
	wrong := []string{"=?x?q?a?=", "=?utf-8?q?a=?=", "=?utf-8?b?YQ?=", "=?us-ascii?q?=80?="}
	var s strings.Builder
	for range random.Intn(12) {
		switch random.Intn(16) {
		case 0:
			s.WriteString(wrong[random.Intn(len(wrong))])
		case 1, 2:
			s.WriteString(nearly[random.Intn(len(nearly))])
		default:
			s.WriteString(right[random.Intn(len(right))])
		}
		for range random.Intn(3) {
			s.WriteByte(" \t"[random.Intn(2)])
		}
	}
	return s.String()
}

// P17.2, P17.3: any texts, and such with some bytes changed.
func TestAnyTexts(t *testing.T) {
	random := rand.New(rand.NewSource(172))
	told := map[api.Errno]int{}
	for range 40000 {
		s := anyHeader(random)
		told[agree(t, s).Err]++
		b := []byte(s)
		for range random.Intn(3) {
			if len(b) > 0 {
				b[random.Intn(len(b))] = " \t=?*_QqBb4A\x80\xc3\r\n"[random.Intn(16)]
			}
		}
		agree(t, string(b))
	}
	if told[api.OK] < 5000 || told[api.ErrCharset] < 1000 || told[api.ErrWord] < 1000 {
		t.Fatalf("not all kinds came often: %v", told)
	}
}
