package verb

import (
	"posthorn/api"
	"posthorn/domain"
	"posthorn/octet"
	"posthorn/param"
	"posthorn/path"
)

// A command's methods write what stands behind its word. What may not be need not be looked for here: it is
// left out, or written as it is, and Print sees that something else, or nothing, is read of it.
type command api.Command

// nothing writes nothing.
func (c command) nothing() string { return "" }

// host writes a host.
func (c command) host() string {
	host, _ := domain.Print(c.Host)
	return " " + host
}

// mail writes where mail comes from.
func (c command) mail() string { return " " + from + c.path() }

// rcpt writes where mail goes to.
func (c command) rcpt() string { return " " + to + c.path() }

// path writes a path and parameters.
func (c command) path() string {
	text, _ := path.Print(c.Path)
	params, _ := param.Print(c.Params)
	return text + params
}

// chunk writes a number of octets, and whether they are the last ones. (A number below 0 becomes one that is
// too great to be read.)
func (c command) chunk() string {
	text := " " + octet.Decimal(uint64(c.Size))
	if c.Last {
		text += " " + last
	}
	return text
}

// text writes a text, if there is one.
func (c command) text() string {
	if !c.HasText {
		return ""
	}
	return " " + c.Text
}

// auth writes a mechanism, and an answer, if there is one.
func (c command) auth() string {
	if len(c.Params) != 1 {
		return ""
	}
	p := c.Params[0]
	text := " " + p.Name
	if !p.Has {
		return text
	}
	if p.Value == "" {
		return text + " " + emptyAnswer
	}
	return text + " " + p.Value
}
