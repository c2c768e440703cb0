package verb

import (
	"math"

	"posthorn/api"
	"posthorn/domain"
	"posthorn/octet"
	"posthorn/param"
	"posthorn/path"
)

// How many bytes a mechanism may have.
const maxMechanism = 20

// A reader is at a place of a line, and has what it read so far as a command. Its methods tell whether it
// could read on; if not, its place is the fault's.
type reader struct {
	line string
	at   int
	c    api.Command
}

// rest is what is not read yet.
func (r *reader) rest() string { return r.line[r.at:] }

// nothing reads the line's end.
func (r *reader) nothing() bool { return r.at == len(r.line) }

// blank goes over a blank behind which something stands.
func (r *reader) blank() bool {
	if r.nothing() || r.line[r.at] != ' ' {
		return false
	}
	r.at++
	return !r.nothing()
}

// word goes over a word, in any capitals.
func (r *reader) word(w string) bool {
	rest := r.rest()
	if len(rest) < len(w) || !octet.Same(rest[:len(w)], w) {
		return false
	}
	r.at += len(w)
	return true
}

// host reads a host.
func (r *reader) host() bool {
	if !r.blank() {
		return false
	}
	h, spot := domain.Parse(r.rest(), false)
	r.at += spot.At
	r.c.Host = h
	return spot.Err == api.OK
}

// mail reads where mail comes from.
func (r *reader) mail() bool {
	return r.blank() && r.word(from) && r.path(path.Reverse) && r.params()
}

// rcpt reads where mail goes to.
func (r *reader) rcpt() bool {
	return r.blank() && r.word(to) && r.path(path.Forward) && r.params()
}

// path reads a path, in one of the two ways.
func (r *reader) path(read func(string, bool) (api.Path, int, api.Spot)) bool {
	p, behind, spot := read(r.rest(), true)
	if spot.Err != api.OK {
		r.at += spot.At
		return false
	}
	r.at += behind
	r.c.Path = p
	return true
}

// params reads parameters, to the line's end.
func (r *reader) params() bool {
	l, spot := param.Parse(r.rest(), true)
	r.at += spot.At
	r.c.Params = l
	return spot.Err == api.OK
}

// chunk reads a number of octets, and whether they are the last ones.
func (r *reader) chunk() bool {
	if !r.blank() {
		return false
	}
	end := octet.Span(octet.Digit, r.line, r.at)
	n, e := octet.Number(r.line[r.at:end], math.MaxInt64)
	if e != api.OK {
		return false
	}
	r.at = end
	r.c.Size = int64(n)
	return r.nothing() || r.blank() && r.last()
}

// last reads LAST, as all that is left.
func (r *reader) last() bool {
	r.c.Last = octet.Same(r.rest(), last)
	return r.c.Last
}

// textOrNothing reads a text, if one stands there.
func (r *reader) textOrNothing() bool { return r.nothing() || r.text() }

// text reads a text.
func (r *reader) text() bool {
	if !r.blank() {
		return false
	}
	r.c.HasText, r.c.Text = true, r.rest()
	return r.all(inText)
}

// auth reads a mechanism, and an answer, if one stands there.
func (r *reader) auth() bool {
	if !r.blank() {
		return false
	}
	length := mechanismLength(r.rest())
	if length == 0 || length > maxMechanism {
		return false
	}
	p := api.Param{Name: octet.Upper(r.rest()[:length])}
	r.at += length
	if !r.nothing() {
		if !r.blank() {
			return false
		}
		p.Has, p.Value = true, answer(r.rest())
	}
	r.c.Params = []api.Param{p}
	return r.all(inAnswer)
}

// all goes over bytes that may stand there, to the line's end.
func (r *reader) all(may func(byte) bool) bool {
	for !r.nothing() && may(r.line[r.at]) {
		r.at++
	}
	return r.nothing()
}

// inText tells whether a byte may stand in a text.
func inText(b byte) bool { return b >= ' ' && b != 127 }

// inAnswer tells whether a byte may stand in an answer.
func inAnswer(b byte) bool { return b > ' ' && b <= '~' }

// answer is what an answer says.
func answer(s string) string {
	if s == emptyAnswer {
		return ""
	}
	return s
}

// mechanismLength is how many bytes of a text, from its beginning on, may stand in a mechanism.
func mechanismLength(s string) int {
	n := 0
	for n < len(s) && (octet.Is(octet.Label, s[n]) || s[n] == '_') {
		n++
	}
	return n
}
