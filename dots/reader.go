package dots

import "posthorn/api"

// Where a reader stands.
const (
	nowhere   = iota // New did not make it
	lineBegin        // ahead of a line's first byte
	behindDot        // behind a dot that begins a line
	dotAndCR         // behind such a dot and a CR: an LF ends the body
	within           // within a line
	behindCR         // within a line, behind a CR: an LF ends the line
	endMet           // the body has ended, and that is not told yet
	over             // that is told
)

// Reader takes a body out of bytes.
type Reader struct {
	text, all        int
	at               int
	row              int // bytes of the line that has not ended, but its CRs: where one is bare, no length is asked for
	size             int // bytes of the body that are certain
	bare, long, high bool
}

// New makes one for lines of at most text bytes, and bodies of at most all bytes.
func New(text, all int) (*Reader, api.Errno) {
	if !bounded(text) || !bounded(all) {
		return nil, api.ErrArg
	}
	return &Reader{text: text, all: all, at: lineBegin}, api.OK
}

// Take takes bytes, and tells how many it took and what came of it.
func (r *Reader) Take(b []byte) (int, api.Item) {
	if r == nil || r.at == nowhere {
		return 0, api.Item{}
	}
	taken := 0
	var told []byte
	for taken < len(b) && r.at < endMet {
		told = r.step(b[taken], told)
		taken++
	}
	if len(told) > 0 {
		return taken, api.Item{Kind: api.ItemBody, Bytes: told}
	}
	if r.at == endMet {
		r.at = over
		return taken, api.Item{Kind: api.ItemEnd, Why: r.why(), High: r.high}
	}
	return taken, api.Item{}
}

// step takes one byte, and puts behind told what is certain with it.
func (r *Reader) step(c byte, told []byte) []byte {
look:
	switch r.at {
	case lineBegin:
		if c == dot {
			r.at = behindDot
			return told
		}
		r.at = within
		goto look
	case behindDot:
		if c == cr {
			r.at = dotAndCR
			return told
		}
		r.at = within
		goto look
	case dotAndCR:
		if c == lf {
			r.at = endMet
			return told
		}
		told = r.tell(cr, told)
		r.at = behindCR
		goto look
	case behindCR:
		if c == lf {
			r.at, r.row = lineBegin, 0
			return r.tell(c, told)
		}
		r.bare = true
		r.at = within
		goto look
	}
	if c == cr {
		r.at = behindCR
		return r.tell(c, told)
	}
	r.bare = r.bare || c == lf
	r.row++
	r.long = r.long || r.row > r.text
	return r.tell(c, told)
}

// tell counts a byte of the body, and puts it behind told unless it is beyond what is told.
func (r *Reader) tell(c byte, told []byte) []byte {
	r.high = r.high || c > 127
	r.size++
	if r.size > r.all {
		return told
	}
	return append(told, c)
}

// why is what is wrong with the body.
func (r *Reader) why() api.Errno {
	switch {
	case r.bare:
		return api.ErrBare
	case r.long:
		return api.ErrText
	case r.size > r.all:
		return api.ErrBig
	}
	return api.OK
}

// Held is how many bytes are taken of which it is not certain whether they are the body's.
func (r *Reader) Held() int {
	if r == nil {
		return 0
	}
	switch r.at {
	case behindDot:
		return 1
	case dotAndCR:
		return 2
	}
	return 0
}
