package field_test

import (
	"bytes"
	"regexp"
	"slices"
	"strings"
	"testing"

	"posthorn/api"
	"posthorn/field"
)

// What the chapter says, once more, by other means: slow, and word by word.

var nameForm = regexp.MustCompile(`\A[!-9;-~]+\z`)

func blankRow(s string) bool    { return strings.Trim(s, " \t") == "" }
func beginsBlank(s string) bool { return strings.HasPrefix(s, " ") || strings.HasPrefix(s, "\t") }

// rowAt is the row that begins a text.
func rowAt(s string) string {
	if at := strings.IndexAny(s, "\r\n"); at >= 0 {
		return s[:at]
	}
	return s
}

// hasBare tells whether a bare CR or LF stands in a text: with the line ends out of it, one of the two is left.
func hasBare(s string) bool {
	return strings.ContainsAny(strings.ReplaceAll(s, "\r\n", "|"), "\r\n")
}

// parsed is what a Parse tells.
type parsed struct {
	l    []api.Field
	body int
	spot api.Spot
}

// modelParse is P16.1.
func modelParse(msg string) parsed {
	var l []api.Field
	at := 0
	for {
		rest := msg[at:]
		row := rowAt(rest)
		behind := rest[len(row):]
		switch {
		case rest == "":
			return parsed{l, at, api.Spot{}}
		case strings.HasPrefix(rest, "\r\n"):
			return parsed{l, at + 2, api.Spot{}}
		case len(row) >= 999:
			return parsed{spot: bad(api.ErrField, at+998)}
		case !strings.HasPrefix(behind, "\r\n"):
			return parsed{spot: bad(api.ErrField, at+len(row))}
		case beginsBlank(row) && (blankRow(row) || l == nil):
			return parsed{spot: bad(api.ErrFold, at)}
		case beginsBlank(row):
			l[len(l)-1].Body += "\r\n" + row
		default:
			i := wrongInName(row)
			if i == len(row) || row[i] != ':' || i == 0 {
				return parsed{spot: bad(api.ErrField, at+i)}
			}
			if len(l) >= 4096 {
				return parsed{spot: bad(api.ErrField, at)}
			}
			l = append(l, api.Field{Name: row[:i], Body: row[i+1:]})
		}
		at += len(row) + 2
	}
}

// wrongInName is the place of the first byte that stands in no name, else the length.
func wrongInName(row string) int {
	for i := range len(row) {
		if row[i] <= 32 || row[i] >= 127 || row[i] == ':' {
			return i
		}
	}
	return len(row)
}

// modelCheck is P16.2.
func modelCheck(f api.Field) api.Errno {
	if !nameForm.MatchString(f.Name) || hasBare(f.Body) {
		return api.ErrField
	}
	rows := strings.Split(f.Name+":"+f.Body, "\r\n")
	if slices.ContainsFunc(rows, func(r string) bool { return len(r) > 998 }) {
		return api.ErrField
	}
	if slices.ContainsFunc(rows[1:], func(r string) bool { return !beginsBlank(r) || blankRow(r) }) {
		return api.ErrFold
	}
	return api.OK
}

// modelPrint is P16.3.
func modelPrint(l []api.Field) (string, api.Errno) {
	if len(l) >= 4097 {
		return "", api.ErrField
	}
	var out strings.Builder
	for _, f := range l {
		if e := modelCheck(f); e != api.OK {
			return "", e
		}
		out.WriteString(f.Name + ":" + f.Body + "\r\n")
	}
	return out.String(), api.OK
}

// modelUnfold is P16.4. (A line end is never part of another one: so the two replacements do not meet.)
func modelUnfold(s string) string {
	return strings.NewReplacer("\r\n ", " ", "\r\n\t", "\t").Replace(s)
}

// isJoint tells whether a place of a text is a joint.
func isJoint(s string, at int) bool {
	return at > 0 && at < len(s) && beginsBlank(s[at:]) && !blankRow(s[at-1:at]) && !blankRow(s[at:])
}

// modelFold is P16.5.
func modelFold(name, s string, most int) (api.Field, api.Errno) {
	if !nameForm.MatchString(name) || strings.ContainsAny(s, "\r\n") {
		return api.Field{}, api.ErrField
	}
	if most <= 0 || most >= 999 {
		return api.Field{}, api.ErrArg
	}
	var rows []string
	for b := 0; b < len(s) || rows == nil; {
		to := modelRow(name+":", s, b, most)
		rows = append(rows, s[b:to])
		b = to
	}
	if len(name)+1+len(rows[0]) >= 999 || slices.ContainsFunc(rows, func(r string) bool { return len(r) >= 999 }) {
		return api.Field{}, api.ErrField
	}
	return api.Field{Name: name, Body: strings.Join(rows, "\r\n")}, api.OK
}

// modelRow is where the row that begins at b ends.
func modelRow(ahead, s string, b, most int) int {
	if b > 0 {
		ahead = ""
	}
	fits := func(to int) bool { return len(ahead)+to-b <= most }
	var joints []int
	for at := b + 1; at < len(s); at++ {
		if isJoint(s, at) {
			joints = append(joints, at)
		}
	}
	if fits(len(s)) || joints == nil {
		return len(s)
	}
	for _, at := range slices.Backward(joints) {
		if fits(at) {
			return at
		}
	}
	return joints[0]
}

// modelFind is P16.6.
func modelFind(l []api.Field, name string) (at []int) {
	for i, f := range l {
		if bytes.Equal(capitals(f.Name), capitals(name)) {
			at = append(at, i)
		}
	}
	return at
}

// capitals are a text's bytes, those from a to z as capitals.
func capitals(s string) []byte {
	b := []byte(s)
	for i := range b {
		if strings.IndexByte("abcdefghijklmnopqrstuvwxyz", b[i]) >= 0 {
			b[i] -= 32
		}
	}
	return b
}

// agreeParse holds a Parse against the model's.
func agreeParse(t *testing.T, msg string) parsed {
	t.Helper()
	want := modelParse(msg)
	l, body, spot := field.Parse([]byte(msg))
	if !slices.Equal(l, want.l) || body != want.body || spot != want.spot {
		t.Fatalf("Parse(%s): %s, %d, %v, want %s, %d, %v", short(msg), showFields(l), body, spot, showFields(want.l), want.body, want.spot)
	}
	return want
}

// agreeCheck holds a Check, and a Print of the field alone, against the model's.
func agreeCheck(t *testing.T, name, body string) api.Errno {
	t.Helper()
	f := api.Field{Name: name, Body: body}
	want := modelCheck(f)
	wantCheck(t, name, body, want)
	agreePrint(t, []api.Field{f})
	return want
}

// agreePrint holds a Print against the model's.
func agreePrint(t *testing.T, l []api.Field) api.Errno {
	t.Helper()
	want, e := modelPrint(l)
	if b, got := field.Print(l); string(b) != want || got != e {
		t.Fatalf("Print(%s): %s, %d, want %s, %d", showFields(l), short(string(b)), got, short(want), e)
	}
	return e
}

// agreeUnfold holds an Unfold against the model's.
func agreeUnfold(t *testing.T, s string) {
	t.Helper()
	if got := field.Unfold(s); got != modelUnfold(s) {
		t.Fatalf("Unfold(%s): %s, want %s", short(s), short(got), short(modelUnfold(s)))
	}
}

// agreeFold holds a Fold against the model's.
func agreeFold(t *testing.T, name, s string, most int) (api.Field, api.Errno) {
	t.Helper()
	f, e := modelFold(name, s, most)
	wantFold(t, name, s, most, f.Body, e)
	return f, e
}

// eachText goes through all texts of at most so many of the given pieces.
func eachText(pieces []string, most int, do func(string)) {
	var grow func(string, int)
	grow = func(s string, left int) {
		do(s)
		if left == 0 {
			return
		}
		for _, p := range pieces {
			grow(s+p, left-1)
		}
	}
	grow("", most)
}
