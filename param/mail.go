package param

import (
	"math"
	"slices"

	"posthorn/api"
	"posthorn/octet"
	"posthorn/path"
)

// The parameters of MAIL.
const (
	nameSize = "SIZE"
	nameBody = "BODY"
	nameWide = "SMTPUTF8"
	nameRet  = "RET"
	nameId   = "ENVID"
	nameAuth = "AUTH"
)

// What AUTH says of a sender of whom nothing is known.
const nobody = "<>"

// bodies are the words of BODY, each at its number.
func bodies() []string {
	return []string{api.Body7: "7BIT", api.Body8: "8BITMIME", api.BodyBinary: "BINARYMIME"}
}

// returns are the words of RET, each at its number.
func returns() []string {
	return []string{api.RetFull: "FULL", api.RetHead: "HDRS"}
}

// Mail is what MAIL's parameters say.
func Mail(l []api.Param) (api.MailOpts, api.Errno) {
	var o api.MailOpts
	e := mean(l, isMail, func(p api.Param) bool { return sayMail(&o, p) })
	if e != api.OK {
		return api.MailOpts{}, e
	}
	return o, api.OK
}

// isMail tells whether MAIL has a parameter of this name.
func isMail(name string) bool {
	switch name {
	case nameSize, nameBody, nameWide, nameRet, nameId, nameAuth:
		return true
	}
	return false
}

// sayMail takes up what a parameter of MAIL says, and tells whether it may be so.
func sayMail(o *api.MailOpts, p api.Param) bool {
	var may bool
	switch p.Name {
	case nameWide:
		o.Wide = true
		return !p.Has && p.Value == ""
	case nameSize:
		o.HasSize = true
		o.Size, may = sizeOf(p.Value)
	case nameBody:
		o.Body = slices.Index(bodies(), octet.Upper(p.Value))
		may = o.Body > 0
	case nameRet:
		o.Ret = slices.Index(returns(), octet.Upper(p.Value))
		may = o.Ret > 0
	case nameId:
		o.HasId = true
		o.Id, may = carried(p.Value, isShown)
	case nameAuth:
		o.HasAuth = true
		o.Auth, may = authOf(p.Value)
	}
	return p.Has && may
}

// sizeOf reads the value of SIZE.
func sizeOf(s string) (int64, bool) {
	n, e := octet.Number(s, math.MaxInt64)
	return int64(n), e == api.OK
}

// carried is the text that a value carries as xtext, and whether it is such a one.
func carried(s string, is func(string) bool) (string, bool) {
	text, spot := Unxtext(s)
	return text, spot.Err == api.OK && is(text)
}

// authOf reads the value of AUTH.
func authOf(s string) (string, bool) {
	if s == nobody {
		return "", true
	}
	return carried(s, isBox)
}

// isBox tells whether a text is a mailbox, and not wide.
func isBox(s string) bool {
	_, spot := path.Box(s, false)
	return spot.Err == api.OK
}

// OfMail writes what MAIL says as parameters.
func OfMail(o api.MailOpts) ([]api.Param, api.Errno) {
	if !mayMail(o) {
		return nil, api.ErrValue
	}
	auth := nobody
	if o.Auth != "" {
		auth = Xtext(o.Auth)
	}
	var l []api.Param
	l = add(l, o.HasSize, nameSize, octet.Decimal(uint64(o.Size)))
	l = add(l, o.Body > 0, nameBody, bodies()[o.Body])
	l = add(l, o.Wide, nameWide, "")
	l = add(l, o.Ret > 0, nameRet, returns()[o.Ret])
	l = add(l, o.HasId, nameId, Xtext(o.Id))
	l = add(l, o.HasAuth, nameAuth, auth)
	return l, api.OK
}

// mayMail tells whether MAIL can say this.
func mayMail(o api.MailOpts) bool {
	if o.Size < 0 || o.Size > 0 && !o.HasSize {
		return false
	}
	if o.Body < 0 || o.Body >= len(bodies()) || o.Ret < 0 || o.Ret >= len(returns()) {
		return false
	}
	return fits(o.HasId, o.Id, isShown) && fits(o.HasAuth, o.Auth, isAuth)
}

// isAuth tells whether a text may be told as Auth.
func isAuth(s string) bool {
	return s == "" || isBox(s)
}
