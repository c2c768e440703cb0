package path

import (
	"strings"

	"posthorn/api"
	"posthorn/domain"
	"posthorn/octet"
)

// What a domain goes up to.
const behindDomain = "<>,:@ "

// A reader is at a place of a text. Where it meets a fault it keeps it, and gives up by panic, so that no
// part has to look at what another one met.
type reader struct {
	text  string
	at    int
	wide  bool
	fault api.Spot
}

// fail gives up.
func (r *reader) fail(e api.Errno, at int) {
	r.fault = api.Spot{Err: e, At: at}
	panic(e)
}

// next tells whether this byte is the next one.
func (r *reader) next(b byte) bool {
	return r.at < len(r.text) && r.text[r.at] == b
}

// need goes over a byte without which there is no path.
func (r *reader) need(b byte) {
	if !r.next(b) {
		r.fail(api.ErrPath, r.at)
	}
	r.at++
}

// path reads a path, which may be this short one, in any capitals, of a kind of its own.
func (r *reader) path(short string, kind int) api.Path {
	if len(r.text) >= len(short) && octet.Same(r.text[:len(short)], short) {
		r.at = len(short)
		return api.Path{Kind: kind}
	}
	r.need('<')
	p := api.Path{Kind: api.PathBox}
	if r.next('@') {
		p.Route = r.route()
	}
	p.Box = r.box()
	r.need('>')
	// A row of noughts may be written in one byte more than it stood there.
	if r.at > api.MaxPath || len(written(p)) > api.MaxPath {
		r.fail(api.ErrPath, 0)
	}
	return p
}

// route reads a route.
func (r *reader) route() []api.Host {
	var l []api.Host
	for {
		if len(l) == api.MaxRoute && r.next('@') {
			r.fail(api.ErrRoute, r.at)
		}
		r.need('@')
		l = append(l, r.name())
		if r.next(':') {
			r.at++
			return l
		}
		if !r.next(',') {
			r.fail(api.ErrRoute, r.at)
		}
		r.at++
	}
}

// name reads a host of a route.
func (r *reader) name() api.Host {
	from := r.at
	h := r.host()
	if h.Kind != api.HostName {
		r.fail(api.ErrRoute, from)
	}
	return h
}

// box reads a mailbox.
func (r *reader) box() api.Mailbox {
	local := r.local()
	r.need('@')
	return api.Mailbox{Local: local, Host: r.host()}
}

// host reads a host.
func (r *reader) host() api.Host {
	length := hostLength(r.text[r.at:])
	h, spot := domain.Parse(r.text[r.at:r.at+length], r.wide)
	if spot.Err != api.OK {
		r.fail(spot.Err, r.at+spot.At)
	}
	r.at += length
	return h
}

// hostLength is how many bytes of a text are to be read as a host.
func hostLength(s string) int {
	end, behind := strings.IndexAny(s, behindDomain), 0
	if strings.HasPrefix(s, "[") {
		end, behind = strings.IndexByte(s, ']'), 1
	}
	if end < 0 {
		return len(s)
	}
	return end + behind
}

// local reads a local part.
func (r *reader) local() string {
	from := r.at
	meant := r.meant()
	stands := r.text[from:r.at]
	if len(stands) > api.MaxLocal {
		r.fail(api.ErrLocal, from)
	}
	if at := firstWide(stands, r.wide); at < len(stands) {
		r.fail(api.ErrWide, from+at)
	}
	return meant
}

// meant reads a local part, and is what it means.
func (r *reader) meant() string {
	if r.next('"') {
		return r.quoted()
	}
	from := r.at
	r.at += atoms(r.text[from:])
	if r.at == from {
		r.fail(api.ErrLocal, from)
	}
	return r.text[from:r.at]
}

// quoted reads what stands between two quotation marks, and is what it means.
func (r *reader) quoted() string {
	from := r.at
	var meant []byte
	for at := from + 1; at < len(r.text); at++ {
		b := r.text[at]
		switch {
		case b == '"':
			r.at = at + 1
			return string(meant)
		case b == '\\' && at+1 < len(r.text):
			if !escapable(r.text[at+1]) {
				r.fail(api.ErrLocal, at)
			}
			at++
			b = r.text[at]
		case !mayStand(b):
			r.fail(api.ErrLocal, at)
		}
		meant = append(meant, b)
	}
	r.fail(api.ErrQuote, from)
	return ""
}

// atoms is how many bytes of a text, from its beginning on, are the longest row of atoms with a dot between
// each two.
func atoms(s string) int {
	end := atom(s, 0)
	for end > 0 && end < len(s) && s[end] == '.' {
		next := atom(s, end+1)
		if next == end+1 {
			break
		}
		end = next
	}
	return end
}

// atom is the place behind the atom that begins at a place; this one itself, if none does.
func atom(s string, from int) int {
	for from < len(s) && (octet.Is(octet.Atom, s[from]) || octet.Is(octet.High, s[from])) {
		from++
	}
	return from
}
