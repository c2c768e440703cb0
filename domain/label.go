package domain

import (
	"strings"

	"posthorn/api"
	"posthorn/octet"
	"posthorn/runes"
)

// What stands ahead of a label that is written in Punycode.
const punyMark = "xn--"

// wrongDomain tells what is wrong with a domain.
func wrongDomain(s string, wide bool) api.Spot {
	// Asked ahead: then a text of any length is not gone through.
	if len(s) > api.MaxDomain {
		return api.Spot{Err: api.ErrDomain, At: api.MaxDomain}
	}
	at, begin, formed := 0, 0, 0
	if wide {
		formed = runes.Bad(s)
	}
	wrong := func() api.Spot { return api.Spot{Err: api.ErrLabel, At: at} }
	mayEnd := func() bool { return at > begin && s[at-1] != '-' }
	mayStand := func() bool {
		return octet.Is(octet.LetDig, s[at]) || s[at] == '-' && at > begin || octet.Is(octet.High, s[at]) && at < formed
	}
	for ; at < len(s); at++ {
		switch {
		case s[at] == '.' && mayEnd():
			begin = at + 1
		case s[at] == '.' || at-begin == api.MaxLabel || !mayStand():
			return wrong()
		}
	}
	if !mayEnd() {
		return wrong()
	}
	return api.Spot{}
}

// asciiDomain is a domain that may be, in small letters and without wide labels.
func asciiDomain(s string) (string, api.Errno) {
	labels := strings.Split(small(s), ".")
	for i, label := range labels {
		label = asciiLabel(label)
		if len(label) > api.MaxLabel {
			return "", api.ErrLabel
		}
		labels[i] = label
	}
	name := strings.Join(labels, ".")
	if len(name) > api.MaxDomain {
		return "", api.ErrDomain
	}
	return name, api.OK
}

// asciiLabel is a label as old wires carry it. (A label is so short that its Punycode's steps stay far
// below their bound.)
func asciiLabel(label string) string {
	if octet.Bad(octet.Ascii, label) == len(label) {
		return label
	}
	l, _ := runes.Decode(label)
	puny, _ := runes.Puny(l)
	return punyMark + puny
}

// small turns A to Z into small letters, and leaves all other bytes as they are.
func small(s string) string {
	b := []byte(s)
	for i, c := range b {
		if 'A' <= c && c <= 'Z' {
			b[i] = c - 'A' + 'a'
		}
	}
	return string(b)
}
