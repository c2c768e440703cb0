package param

import (
	"strings"

	"posthorn/api"
	"posthorn/octet"
	"posthorn/runes"
)

// The parameters of RCPT.
const (
	nameNotify = "NOTIFY"
	nameOrig   = "ORCPT"
)

// What stands behind the kind of an ORCPT, and the kind whose text stands for itself.
const (
	kindEnd  = ";"
	kindWide = "utf-8"
)

// Rcpt is what RCPT's parameters say.
func Rcpt(l []api.Param) (api.RcptOpts, api.Errno) {
	var o api.RcptOpts
	e := mean(l, isRcpt, func(p api.Param) bool { return sayRcpt(&o, p) })
	if e != api.OK {
		return api.RcptOpts{}, e
	}
	return o, api.OK
}

// isRcpt tells whether RCPT has a parameter of this name.
func isRcpt(name string) bool {
	return name == nameNotify || name == nameOrig
}

// sayRcpt takes up what a parameter of RCPT says, and tells whether it may be so.
func sayRcpt(o *api.RcptOpts, p api.Param) bool {
	var may bool
	switch p.Name {
	case nameNotify:
		o.Notify, may = notifyOf(p.Value)
	case nameOrig:
		o.HasOrig = true
		o.Orig, may = origOf(p.Value)
	}
	return p.Has && may
}

// origOf reads the value of ORCPT.
func origOf(s string) (string, bool) {
	kind, text, _ := strings.Cut(s, kindEnd)
	if isWideKind(kind) {
		return s, isOrig(s)
	}
	text, spot := Unxtext(text)
	orig := kind + kindEnd + text
	return orig, spot.Err == api.OK && isOrig(orig)
}

// isOrig tells whether a text may be told as Orig.
func isOrig(s string) bool {
	kind, text, _ := strings.Cut(s, kindEnd)
	if kind == "" || octet.Bad(octet.Label, kind) < len(kind) {
		return false
	}
	if isWideKind(kind) {
		return isWideText(text)
	}
	return isShown(text)
}

// isWideKind tells whether the text behind this kind stands for itself.
func isWideKind(kind string) bool {
	return octet.Same(kind, kindWide)
}

// isWideText tells whether a text may stand behind the kind utf-8.
func isWideText(s string) bool {
	for i := range len(s) {
		if s[i] == '\\' || !octet.Is(octet.Xchar, s[i]) && !octet.Is(octet.High, s[i]) {
			return false
		}
	}
	return s != "" && runes.Bad(s) == len(s)
}

// OfRcpt writes what RCPT says as parameters.
func OfRcpt(o api.RcptOpts) ([]api.Param, api.Errno) {
	if !mayNotify(o.Notify) || !fits(o.HasOrig, o.Orig, isOrig) {
		return nil, api.ErrValue
	}
	var l []api.Param
	l = add(l, o.Notify > 0, nameNotify, notifyValue(o.Notify))
	l = add(l, o.HasOrig, nameOrig, origValue(o.Orig))
	return l, api.OK
}

// origValue writes the value of ORCPT.
func origValue(orig string) string {
	kind, text, _ := strings.Cut(orig, kindEnd)
	if isWideKind(kind) {
		return orig
	}
	return kind + kindEnd + Xtext(text)
}
