// Package octet is layer 1: see shared/doc/01-octet.md.
package octet

import (
	"strconv"

	"posthorn/api"
)

// Text is a text or bytes.
type Text interface{ ~string | ~[]byte }

// The classes of bytes.
const (
	Alpha  = 1  // A to Z, a to z
	Digit  = 2  // 0 to 9
	LetDig = 3  // both
	Hex    = 4  // 0 to 9, A to F, a to f
	Atom   = 5  // LetDig and !#$%&'*+-/=?^_{|}~ and the back quote
	Quoted = 6  // 32 to 126 but " and the backslash
	Plain  = 7  // 33 to 126 but [ ] and the backslash
	Value  = 8  // 33 to 126 but =
	Xchar  = 9  // 33 to 126 but + and =
	Label  = 10 // LetDig, -
	Name   = 11 // 33 to 126 but the colon
	Shown  = 12 // 32 to 126, and 9
	Ascii  = 13 // 0 to 127
	High   = 14 // 128 to 255
)

// classes has a row a class, at the class's number. A row's bytes go in pairs, the first and the last
// byte of a stretch: so it stays short, though a class may have a hundred bytes and more. No byte is in
// the row at 0, which is no class.
var classes = [...]string{
	0:      "",
	Alpha:  "AZaz",
	Digit:  "09",
	LetDig: "09AZaz",
	Hex:    "09AFaf",
	Atom:   "09AZaz!!#'*+--//==??^`{~",
	Quoted: " !#[]~",
	Plain:  "!Z^~",
	Value:  "!<>~",
	Xchar:  "!*,<>~",
	Label:  "09AZaz--",
	Name:   "!9;~",
	Shown:  "\t\t ~",
	Ascii:  "\x00\x7f",
	High:   "\x80\xff",
}

// The digits to the base sixteen, as HexOf writes them.
const hexDigits = "0123456789ABCDEF"

// Is tells whether a byte is of a class.
func Is(class int, b byte) bool {
	if class < 0 || class >= len(classes) {
		return false
	}
	row := classes[class]
	for i := 0; i+1 < len(row); i += 2 {
		if row[i] <= b && b <= row[i+1] {
			return true
		}
	}
	return false
}

// Bad is the place of the first byte that is not of the class; the length, if all are.
func Bad[T Text](class int, s T) int { return Span(class, s, 0) }

// Span is the place behind the row of bytes of the class that begins at from.
func Span[T Text](class int, s T, from int) int {
	if from < 0 {
		return from
	}
	at := from
	for at < len(s) && Is(class, s[at]) {
		at++
	}
	return at
}

// Upper turns a to z into capitals. (The library's ToUpper knows letters above 127, too, and would spoil
// bytes that are no UTF-8.)
func Upper(s string) string {
	b := []byte(s)
	for i, c := range b {
		if 'a' <= c && c <= 'z' {
			b[i] = c - 'a' + 'A'
		}
	}
	return string(b)
}

// Same tells whether two texts are the same but for capitals.
func Same(a, b string) bool { return Upper(a) == Upper(b) }

// Number reads digits.
func Number(s string, most uint64) (uint64, api.Errno) {
	if len(s) < 1 || len(s) > api.MaxDigits || Bad(Digit, s) < len(s) {
		return 0, api.ErrDigits
	}
	var n uint64
	for i := range len(s) {
		d := uint64(s[i] - '0')
		// Asked ahead of the sum: twenty digits may say more than 64 bits hold.
		if d > most || n > (most-d)/10 {
			return 0, api.ErrRange
		}
		n = n*10 + d
	}
	return n, api.OK
}

// Decimal is a number's digits.
func Decimal(n uint64) string { return strconv.FormatUint(n, 10) }

// HexOf is two digits a byte; Unhex reads them.
func HexOf(b []byte) string {
	out := make([]byte, 0, 2*len(b))
	for _, c := range b {
		out = append(out, hexDigits[c>>4], hexDigits[c&15])
	}
	return string(out)
}

// Unhex reads pairs of digits.
func Unhex(s string) ([]byte, api.Spot) {
	at := Bad(Hex, s)
	// A wrong byte comes first, then an odd length, whose place is the length, too.
	if at < len(s) || len(s)%2 != 0 {
		return nil, api.Spot{Err: api.ErrDigits, At: at}
	}
	out := make([]byte, len(s)/2)
	for i := range out {
		out[i] = hexValue(s[2*i])<<4 | hexValue(s[2*i+1])
	}
	return out, api.Spot{}
}

// hexValue is what a digit says; c is of the class Hex.
func hexValue(c byte) byte {
	switch {
	case c >= 'a':
		return c - 'a' + 10
	case c >= 'A':
		return c - 'A' + 10
	}
	return c - '0'
}
