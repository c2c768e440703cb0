package word_test

import (
	"encoding/base64"
	"encoding/hex"
	"regexp"
	"strconv"
	"strings"
	"testing"
	"unicode/utf8"

	"posthorn/api"
	"posthorn/code"
	"posthorn/word"
)

// What the chapter says, once more, by other means: slow, and word by word.

var (
	pieces      = regexp.MustCompile(`[ \t]+|[^ \t]+`)
	encodedForm = regexp.MustCompile(`\A=\?([!->@-~]+)\?([BbQq])\?([!->@-~]*)\?=\z`)
	saysByte    = regexp.MustCompile(`\A=[0-9A-Fa-f]{2}`)
	charsetForm = regexp.MustCompile(`\A(?i:(utf-8)|(us-ascii)|(iso-8859-1))(?:\*|\z)`)
)

// modelEncode is P17.1, of a text that is well-formed: without short, and with it.
func modelEncode(s string) (b, brief string) {
	b = inWords(s, func(s string) string { return inB(base64.StdEncoding.EncodeToString([]byte(s))) })
	q := inWords(s, func(s string) string { return inQ(modelQuote(s)) })
	if len(q) < len(b) {
		return b, q
	}
	return b, b
}

// inWords lays a text into words, each of as many runes as it can have.
func inWords(s string, word func(string) string) string {
	var l []string
	rest := []rune(s)
	for len(rest) > 0 {
		n := 1
		for n < len(rest) && len(word(string(rest[:n+1]))) <= 75 {
			n++
		}
		l = append(l, word(string(rest[:n])))
		rest = rest[n:]
	}
	return strings.Join(l, " ")
}

// modelQuote is a text in Q.
func modelQuote(s string) string {
	var out strings.Builder
	for _, c := range []byte(s) {
		switch {
		case strings.IndexByte("ABCDEFGHIJKLMNOPQRSTUVWXYZabcdefghijklmnopqrstuvwxyz0123456789!*+-/", c) >= 0:
			out.WriteByte(c)
		case c == 32:
			out.WriteByte('_')
		default:
			out.WriteString("=" + strings.ToUpper(hex.EncodeToString([]byte{c})))
		}
	}
	return out.String()
}

// modelDecode is P17.2.
func modelDecode(s string) (string, api.Spot) {
	l := pieces.FindAllString(s, -1)
	var out strings.Builder
	at := 0
	for i, p := range l {
		switch between := i > 0 && i+1 < len(l); {
		case encodedForm.MatchString(p):
			means, spot := modelMeans(p)
			if spot.Err != api.OK {
				return "", bad(spot.Err, at+spot.At)
			}
			out.WriteString(means)
		case between && encodedForm.MatchString(l[i-1]) && encodedForm.MatchString(l[i+1]):
		default:
			out.WriteString(p)
		}
		at += len(p)
	}
	return out.String(), api.Spot{}
}

// modelMeans is what an encoded word means, or what is wrong with it.
func modelMeans(w string) (string, api.Spot) {
	m := encodedForm.FindStringSubmatchIndex(w)
	charset := charsetForm.FindStringSubmatch(w[m[2]:m[3]])
	if charset == nil {
		return "", bad(api.ErrCharset, m[2])
	}
	b, at := modelBytes(w[m[4]:m[5]], w[m[6]:m[7]])
	if at >= 0 {
		return "", bad(api.ErrWord, m[6]+at)
	}
	if charset[3] != "" {
		var out strings.Builder
		for _, c := range b {
			out.WriteRune(rune(c))
		}
		return out.String(), api.Spot{}
	}
	high := strings.ContainsFunc(string(b), func(r rune) bool { return r > 127 })
	if !utf8.Valid(b) || charset[2] != "" && high {
		return "", bad(api.ErrWord, m[6])
	}
	return string(b), api.Spot{}
}

// modelBytes are the bytes of an encoded word's text, or the place in it at which they can't be told (else -1).
func modelBytes(coding, text string) ([]byte, int) {
	if coding == "B" || coding == "b" {
		b, err := base64.StdEncoding.Strict().DecodeString(text)
		if _, spot := code.Unbase64(text); err != nil {
			return nil, spot.At
		}
		return b, -1
	}
	var b []byte
	for at := 0; at < len(text); at++ {
		c := text[at]
		switch {
		case saysByte.MatchString(text[at:]):
			n, _ := strconv.ParseUint(text[at+1:at+3], 16, 8)
			c = byte(n)
			at += 2
		case c == '=':
			return nil, at
		case c == '_':
			c = ' '
		}
		b = append(b, c)
	}
	return b, -1
}

// modelNeeds is P17.3.
func modelNeeds(s string) bool {
	for _, c := range []byte(s) {
		if c < 32 && c != 9 || c > 126 {
			return true
		}
	}
	for _, w := range strings.FieldsFunc(s, func(r rune) bool { return r == ' ' || r == '\t' }) {
		if encodedForm.MatchString(w) {
			return true
		}
	}
	return false
}

// agreeEncode holds an Encode against the model's, and asks what follows of it (P17.4, P17.5).
func agreeEncode(t *testing.T, s string) (b, brief string) {
	t.Helper()
	if !utf8.ValidString(s) {
		wantNoUTF8(t, s)
		return "", ""
	}
	b, brief = modelEncode(s)
	wantEncode(t, s, false, b)
	wantEncode(t, s, true, brief)
	for _, text := range []string{b, brief} {
		wantDecode(t, text, s)
		wantFit(t, text)
	}
	if len(brief) > len(b) {
		t.Fatalf("Encode(%s): the short one is longer: %s", short(s), short(brief))
	}
	return b, brief
}

// wantFit asks that a text may be sent: its bytes, and its words' lengths.
func wantFit(t *testing.T, text string) {
	t.Helper()
	if i := strings.IndexFunc(text, func(r rune) bool { return r < 32 || r > 126 }); i >= 0 {
		t.Fatalf("%s: the byte at %d", short(text), i)
	}
	if text == "" {
		return
	}
	for _, w := range strings.Split(text, " ") {
		if len(w) > 75 || !encodedForm.MatchString(w) {
			t.Fatalf("%s: the word %s", short(text), short(w))
		}
	}
}

// agreeDecode holds a Decode against the model's.
func agreeDecode(t *testing.T, s string) api.Spot {
	t.Helper()
	want, spot := modelDecode(s)
	if got, at := word.Decode(s); got != want || at != spot {
		t.Fatalf("Decode(%s): %s, %v, want %s, %v", short(s), short(got), at, short(want), spot)
	}
	return spot
}

// agree holds all that may be asked of any text against the model.
func agree(t *testing.T, s string) api.Spot {
	t.Helper()
	needs := modelNeeds(s)
	wantNeeds(t, s, needs)
	spot := agreeDecode(t, s)
	if !needs {
		wantDecode(t, s, s)
	}
	return spot
}

// eachText goes through all texts of at most so many of the given parts.
func eachText(parts []string, most int, do func(string)) {
	var grow func(string, int)
	grow = func(s string, left int) {
		do(s)
		if left == 0 {
			return
		}
		for _, p := range parts {
			grow(s+p, left-1)
		}
	}
	grow("", most)
}
