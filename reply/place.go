package reply

import "posthorn/api"

// place is where in a reply a reader stands. Nothing else of the bytes so far counts for which may come next, so
// that a copy can run ahead of the reader.
type place struct {
	rows  int              // whole ones of the reply
	code  [codeLength]byte // as the reply's first row has it
	at    int              // bytes of the row so far
	more  bool             // another row is to follow this one
	ended bool             // the CR of the row's end is there
}

// sign is what a byte shows.
type sign int

const (
	goesOn sign = iota
	whole       // the reply is
	wrong
)

// take goes on by one byte.
func (p *place) take(c byte) sign {
	switch {
	case p.ended:
		return p.end(c)
	case c == '\r' && p.at >= codeLength:
		p.ended = true
		return goesOn
	case !p.fits(c):
		return wrong
	case p.at < codeLength:
		p.code[p.at] = c
	case p.at == codeLength:
		p.more = c == moreMark
	}
	p.at++
	return goesOn
}

// end takes the byte behind a row's CR.
func (p *place) end(c byte) sign {
	if c != '\n' {
		return wrong
	}
	if !p.more {
		*p = place{}
		return whole
	}
	*p = place{rows: p.rows + 1, code: p.code}
	return goesOn
}

// fits tells whether a byte that does not end the row may come next in it.
func (p *place) fits(c byte) bool {
	switch {
	case p.at < codeLength && p.rows > 0:
		return c == p.code[p.at]
	case p.at < codeLength:
		return isCodeDigit(p.at, c)
	case p.at == codeLength:
		return c == lastMark || c == moreMark && p.rows+1 < api.MaxReply
	}
	return p.at < api.MaxReplyRow && isTextByte(c)
}

// wholeWith is how many replies become whole with the next bytes, up to the first wrong one.
func (p place) wholeWith(b []byte) int {
	count := 0
	for _, c := range b {
		switch p.take(c) {
		case whole:
			count++
		case wrong:
			return count
		}
	}
	return count
}
