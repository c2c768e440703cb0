package field

import (
	"iter"
	"strings"

	"posthorn/api"
)

// Unfold takes the folds out of a field's body.
func Unfold(s string) string {
	out := make([]byte, 0, len(s))
	from := 0
	for at := range folds(s) {
		out = lay(out, s[from:at])
		from = at + len(crlf)
	}
	return string(lay(out, s[from:]))
}

// folds goes through the places of the line ends right behind which a blank stands.
func folds(s string) iter.Seq[int] {
	return func(yield func(int) bool) {
		for at := 0; at+len(crlf) < len(s); at++ {
			if lineEnd(s, at) && isBlank(s[at+len(crlf)]) && !yield(at) {
				return
			}
		}
	}
}

// Fold lays folds in where a line would be longer than most.
func Fold(name, s string, most int) (api.Field, api.Errno) {
	if !isName(name) || rowEnd(s, 0) < len(s) {
		return api.Field{}, api.ErrField
	}
	if most < 1 || most > api.MaxRow {
		return api.Field{}, api.ErrArg
	}
	ahead := len(name) + len(colon)
	var body []byte
	for from, to := range pieces(s, ahead, most) {
		if from > 0 {
			body = lay(body, crlf)
			ahead = 0
		}
		if ahead+to-from > api.MaxRow {
			return api.Field{}, api.ErrField
		}
		body = lay(body, s[from:to])
	}
	return api.Field{Name: name, Body: string(body)}, api.OK
}

// pieces goes through the rows into which s is cut; ahead bytes count in the first one besides its own.
func pieces(s string, ahead, most int) iter.Seq2[int, int] {
	return func(yield func(int, int) bool) {
		// A row begins at from, may go on for room bytes, and could end at last.
		from, last, room := 0, 0, most-ahead
		for at := range stops(s) {
			if last > from && at-from > room {
				if !yield(from, last) {
					return
				}
				from, room = last, most
			}
			last = at
		}
		yield(from, last)
	}
}

// stops goes through the places at which a row may end: the joints, and the end.
func stops(s string) iter.Seq[int] {
	return func(yield func(int) bool) {
		// Behind no blank among the last ones stands anything else: none of them is a joint.
		end := len(strings.TrimRight(s, " \t"))
		for at := 1; at < end; at++ {
			if isBlank(s[at]) && !isBlank(s[at-1]) && !yield(at) {
				return
			}
		}
		yield(len(s))
	}
}
