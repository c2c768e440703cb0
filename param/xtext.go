package param

import (
	"strings"

	"posthorn/api"
	"posthorn/octet"
)

// How many digits stand behind a +.
const byteDigits = 2

// Xtext writes any bytes in few letters; Unxtext reads them.
func Xtext(s string) string {
	var text strings.Builder
	for i := range len(s) {
		if octet.Is(octet.Xchar, s[i]) {
			text.WriteByte(s[i])
		} else {
			text.WriteString("+" + octet.HexOf([]byte{s[i]}))
		}
	}
	return text.String()
}

// Unxtext reads them.
func Unxtext(s string) (string, api.Spot) {
	var meant []byte
	for at := 0; at < len(s); at++ {
		switch {
		case s[at] == '+':
			digits := digitsBehind(s, at)
			if len(digits) < byteDigits {
				return "", api.Spot{Err: api.ErrXtext, At: at + 1 + len(digits)}
			}
			b, _ := octet.Unhex(digits)
			meant = append(meant, b...)
			at += byteDigits
		case octet.Is(octet.Xchar, s[at]):
			meant = append(meant, s[at])
		default:
			return "", api.Spot{Err: api.ErrXtext, At: at}
		}
	}
	return string(meant), api.Spot{}
}

// digitsBehind are the digits behind the + at a place, as far as they go.
func digitsBehind(s string, at int) string {
	end := at + 1
	for end < len(s) && end <= at+byteDigits && isDigit(s[end]) {
		end++
	}
	return s[at+1 : end]
}

// isDigit tells whether a byte is one of xtext's digits. (octet's class Hex has the small letters, too.)
func isDigit(b byte) bool {
	return octet.Is(octet.Hex, b) && b <= 'F'
}
