package trace

import (
	"strings"

	"posthorn/api"
	"posthorn/date"
	"posthorn/domain"
	"posthorn/octet"
	"posthorn/path"
)

// What a domain goes up to.
const behindDomain = " \t();"

// cursor goes through a text from the left. A method that asks for a part tells whether it stands here, and
// goes over it then; if it does not, the cursor has the fault.
type cursor struct {
	text  string
	at    int
	fault api.Spot
}

// fail has a fault.
func (c *cursor) fail(e api.Errno, at int) bool {
	c.fault = api.Spot{Err: e, At: at}
	return false
}

// rest is what was not gone over yet.
func (c *cursor) rest() string { return c.text[c.at:] }

// free goes over a gap that may be missing.
func (c *cursor) free() {
	c.at = len(c.text) - len(strings.TrimLeft(c.rest(), " \t"))
}

// gap asks for a gap.
func (c *cursor) gap() bool {
	from := c.at
	c.free()
	return c.at > from || c.fail(api.ErrTrace, from)
}

// mark asks for just this text.
func (c *cursor) mark(s string) bool {
	if !strings.HasPrefix(c.rest(), s) {
		return c.fail(api.ErrTrace, c.at)
	}
	c.at += len(s)
	return true
}

// word asks for a word, in any capitals.
func (c *cursor) word(w string) bool {
	end := octet.Span(octet.Alpha, c.text, c.at)
	if !octet.Same(c.text[c.at:end], w) {
		return c.fail(api.ErrTrace, c.at)
	}
	c.at = end
	return true
}

// row asks for a row of one to most bytes of a class, and puts it there.
func (c *cursor) row(there *string, class, most int) bool {
	end := octet.Span(class, c.text, c.at)
	if end == c.at || end-c.at > most {
		return c.fail(api.ErrTrace, c.at)
	}
	*there = c.text[c.at:end]
	c.at = end
	return true
}

// option asks for a gap and a part behind it, but stays where it is, without a fault, if they do not stand
// here.
func (c *cursor) option(part func(string) bool, what string) bool {
	was := *c
	if c.gap() && part(what) {
		return true
	}
	*c = was
	return false
}

// take takes what a lower layer told of what stands here: its fault, or that it read so many bytes.
func (c *cursor) take(size int, spot api.Spot) bool {
	if spot.Err != api.OK {
		return c.fail(spot.Err, c.at+spot.At)
	}
	c.at += size
	return true
}

// reader reads a trace, as the cursor goes.
type reader struct {
	cursor
	told api.Trace
}

// trace reads all.
func (r *reader) trace() bool {
	r.free()
	return r.word(wordFrom) && r.gap() && r.host(&r.told.From) && r.peer() &&
		r.gap() && r.word(wordBy) && r.gap() && r.host(&r.told.By) &&
		r.gap() && r.word(wordWith) && r.gap() && r.row(&r.told.With, octet.LetDig, maxWith) &&
		r.id() && r.rcpt() && r.time()
}

// host reads a host, and puts it there.
func (r *reader) host(there *api.Host) bool {
	stands := r.rest()[:hostSize(r.rest())]
	h, spot := domain.Parse(stands, true)
	*there = h
	return r.take(len(stands), spot)
}

// hostSize is how many bytes of a text are to be read as a host.
func hostSize(s string) int {
	end, behind := strings.IndexAny(s, behindDomain), 0
	if strings.HasPrefix(s, "[") {
		end, behind = strings.IndexByte(s, ']'), 1
	}
	if end < 0 {
		return len(s)
	}
	return end + behind
}

// peer reads who was connected, if it is said.
func (r *reader) peer() bool {
	if !r.option(r.mark, opening) {
		return true
	}
	from := r.at
	if !r.host(&r.told.Peer) {
		return false
	}
	if r.told.Peer.Kind == api.HostName {
		return r.fail(api.ErrTrace, from)
	}
	return r.mark(closing)
}

// id reads a number, if one is said.
func (r *reader) id() bool {
	return !r.option(r.word, wordId) || r.gap() && r.row(&r.told.Id, octet.Atom, maxId)
}

// rcpt reads where the message goes, if it is said.
func (r *reader) rcpt() bool {
	return !r.option(r.word, wordFor) || r.gap() && r.path()
}

// path reads a path.
func (r *reader) path() bool {
	p, size, spot := path.Forward(r.rest(), true)
	r.told.For = p
	return r.take(size, spot)
}

// time reads when it was, up to the end.
func (r *reader) time() bool {
	r.free()
	if !r.mark(semicolon) {
		return false
	}
	when, spot := date.Parse(r.rest())
	r.told.Time = when
	return r.take(len(r.rest()), spot)
}
