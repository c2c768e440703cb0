package word

import (
	"strings"

	"posthorn/api"
	"posthorn/code"
	"posthorn/octet"
)

// What stands around the charset, the coding and the text of an encoded word, and how long one is that is written.
const (
	opening  = "=?"
	between  = "?"
	closing  = "?="
	nameUTF8 = "UTF-8"
	mostWord = 75
	mostText = mostWord - len(opening) - len(nameUTF8) - len(between) - len(inB) - len(between) - len(closing)
)

// coding is how the bytes of an encoded word are written as its text. (As a capital, as it is written itself.)
type coding string

const (
	inB coding = "B"
	inQ coding = "Q"
)

// itself are the bytes that stand for themselves in Q, beside letters and digits.
const itself = "!*+-/"

// write writes a text as encoded words; it is well-formed.
func (c coding) write(s string) string {
	var out []string
	var taken []byte
	left := c.room()
	for _, r := range s {
		b := []byte(string(r))
		cost := c.cost(b)
		if cost > left {
			out = append(out, c.word(taken))
			taken, left = taken[:0], c.room()
		}
		taken = append(taken, b...)
		left -= cost
	}
	if len(taken) > 0 {
		out = append(out, c.word(taken))
	}
	return strings.Join(out, " ")
}

// room is what a word has for its runes' costs. (In B three bytes are written with four letters, but so is
// one: only a count of the bytes tells how many more there may be.)
func (c coding) room() int {
	if c == inB {
		return mostText / 4 * 3
	}
	return mostText
}

// cost is what a rune's bytes take of a word's room.
func (c coding) cost(b []byte) int {
	if c == inB {
		return len(b)
	}
	return len(quote(b))
}

// word is the encoded word of bytes.
func (c coding) word(b []byte) string {
	return opening + nameUTF8 + between + string(c) + between + c.text(b) + closing
}

// text is how bytes are written.
func (c coding) text(b []byte) string {
	if c == inB {
		return code.Base64(b)
	}
	return quote(b)
}

// quote writes bytes in Q.
func quote(b []byte) string {
	text := make([]byte, 0, len(b))
	for i, c := range b {
		switch {
		case octet.Is(octet.LetDig, c) || strings.IndexByte(itself, c) >= 0:
			text = append(text, c)
		case c == ' ':
			text = append(text, '_')
		default:
			text = append(text, '=')
			text = append(text, octet.HexOf(b[i:i+1])...)
		}
	}
	return string(text)
}

// read tells a text's bytes, or the place in it of what can't be read.
func (c coding) read(text string) ([]byte, api.Spot) {
	if c == inB {
		return code.Unbase64(text)
	}
	return unquote(text)
}

// unquote reads what is written in Q.
func unquote(text string) ([]byte, api.Spot) {
	said := make([]byte, 0, len(text))
	for at := 0; at < len(text); at++ {
		switch c := text[at]; c {
		case '_':
			said = append(said, ' ')
		case '=':
			digits := text[at+1 : min(at+3, len(text))]
			if octet.Bad(octet.Hex, digits) < 2 {
				return nil, api.Spot{Err: api.ErrWord, At: at}
			}
			one, _ := octet.Unhex(digits)
			said = append(said, one...)
			at += len(digits)
		default:
			said = append(said, c)
		}
	}
	return said, api.Spot{}
}
