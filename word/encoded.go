package word

import (
	"strings"

	"posthorn/api"
	"posthorn/octet"
	"posthorn/runes"
)

// encoded is an encoded word, with the places of its charset and its text.
type encoded struct {
	charset string
	coding  coding
	text    string

	charsetAt, textAt int
}

// parse tells whether the word from one place to another is encoded, and its parts.
func parse(s string, from, to int) (encoded, bool) {
	w := s[from:to]
	// Of the class Shown are blanks, too, but none stands in a word.
	if octet.Bad(octet.Shown, w) < len(w) {
		return encoded{}, false
	}
	// The last part is all that is left: so it is more than an = where there is a ? too many.
	parts := strings.SplitN(w, between, 5)
	if len(parts) != 5 || parts[0] != "=" || parts[1] == "" || parts[4] != "=" {
		return encoded{}, false
	}
	c := coding(octet.Upper(parts[2]))
	if c != inB && c != inQ {
		return encoded{}, false
	}
	e := encoded{charset: parts[1], coding: c, text: parts[3]}
	e.charsetAt = from + len(opening)
	e.textAt = to - len(closing) - len(e.text)
	return e, true
}

// means is what an encoded word means.
func (e encoded) means() (string, api.Spot) {
	name, _, _ := strings.Cut(e.charset, "*")
	charset := charsetOf(name)
	if charset == unknown {
		return "", api.Spot{Err: api.ErrCharset, At: e.charsetAt}
	}
	b, spot := e.coding.read(e.text)
	if spot.Err != api.OK {
		return "", api.Spot{Err: api.ErrWord, At: e.textAt + spot.At}
	}
	text, ok := charset.text(b)
	if !ok {
		return "", api.Spot{Err: api.ErrWord, At: e.textAt}
	}
	return text, api.Spot{}
}

// charset is what the bytes of an encoded word say.
type charset int

const (
	unknown charset = iota
	utf8
	usASCII
	latin1
)

// charsetOf is the charset of a name.
func charsetOf(name string) charset {
	switch octet.Upper(name) {
	case nameUTF8:
		return utf8
	case "US-ASCII":
		return usASCII
	case "ISO-8859-1":
		return latin1
	}
	return unknown
}

// text is what bytes mean, if they mean something.
func (c charset) text(b []byte) (string, bool) {
	switch c {
	case utf8:
		return string(b), runes.Bad(b) == len(b)
	case usASCII:
		return string(b), octet.Bad(octet.Ascii, b) == len(b)
	case latin1:
		l := make([]rune, len(b))
		for i, one := range b {
			l[i] = rune(one)
		}
		return string(l), true
	}
	return "", false
}
