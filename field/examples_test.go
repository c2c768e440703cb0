package field_test

import (
	"fmt"
	"slices"
	"strings"
	"testing"

	"posthorn/api"
	"posthorn/field"
)

// The chapter's section Examples, row by row.

// wire is a text with a line end in the place of each slash.
func wire(s string) string { return strings.ReplaceAll(s, "/", "\r\n") }

// xs are n letters.
func xs(n int) string { return strings.Repeat("x", n) }

// fields are fields of names and bodies in turns, a slash for a line end.
func fields(words ...string) (l []api.Field) {
	for i := 0; i+1 < len(words); i += 2 {
		l = append(l, api.Field{Name: words[i], Body: wire(words[i+1])})
	}
	return l
}

// bad is an error at a place.
func bad(e api.Errno, at int) api.Spot { return api.Spot{Err: e, At: at} }

// short is a text as a failure tells it; a great one is not told whole.
func short(s string) string { return fmt.Sprintf("%d bytes %.120q", len(s), s) }

// showFields are fields as a failure tells them: the last ones, if they are many.
func showFields(l []api.Field) string {
	return fmt.Sprintf("%d fields, at the end %.40q", len(l), l[max(len(l)-4, 0):])
}

// wantFields asks for a Parse that reads all.
func wantFields(t *testing.T, msg string, at int, want []api.Field) {
	t.Helper()
	if l, n, spot := field.Parse([]byte(msg)); !slices.Equal(l, want) || n != at || spot != (api.Spot{}) {
		t.Fatalf("Parse(%s): %s, %d, %v, want %s, %d", short(msg), showFields(l), n, spot, showFields(want), at)
	}
}

// wantSpot asks for a Parse that finds what is wrong, and tells nothing else.
func wantSpot(t *testing.T, msg string, e api.Errno, at int) {
	t.Helper()
	if l, n, spot := field.Parse([]byte(msg)); len(l) != 0 || n != 0 || spot != bad(e, at) {
		t.Fatalf("Parse(%s): %s, %d, %v, want %v", short(msg), showFields(l), n, spot, bad(e, at))
	}
}

// wantCheck asks Check.
func wantCheck(t *testing.T, name, body string, want api.Errno) {
	t.Helper()
	if e := field.Check(api.Field{Name: name, Body: body}); e != want {
		t.Fatalf("Check(%s, %s): %d, want %d", short(name), short(body), e, want)
	}
}

// wantFold asks Fold.
func wantFold(t *testing.T, name, s string, most int, body string, want api.Errno) {
	t.Helper()
	f := api.Field{Name: name, Body: body}
	if want != api.OK {
		f = api.Field{}
	}
	if got, e := field.Fold(name, s, most); got != f || e != want {
		t.Fatalf("Fold(%s, %s, %d): %s and %s, %d, want %s, %d", short(name), short(s), most, short(got.Name), short(got.Body), e, short(body), want)
	}
}

func TestExamplesOfParse(t *testing.T) {
	wantFields(t, wire("A: 1/b:2//body/"), 13, fields("A", " 1", "b", "2"))
	wantFields(t, "", 0, nil)
	wantFields(t, wire("/x"), 2, nil)
	wantFields(t, wire("A:/"), 4, fields("A", ""))
	wantFields(t, wire("A: x/ y/\tz/"), 14, fields("A", " x/ y/\tz"))
}

func TestExamplesOfWrongMessages(t *testing.T) {
	wantSpot(t, wire(" x/"), api.ErrFold, 0)
	wantSpot(t, wire("A:1/ /"), api.ErrFold, 5)
	wantSpot(t, "A:1", api.ErrField, 3)
	wantSpot(t, "A:1\n", api.ErrField, 3)
	wantSpot(t, wire("A\rB:1/"), api.ErrField, 1)
	wantSpot(t, wire("A 1/"), api.ErrField, 1)
	wantSpot(t, wire(":1/"), api.ErrField, 0)
	wantSpot(t, wire("AB/"), api.ErrField, 2)
	wantSpot(t, wire("\xe9:1/"), api.ErrField, 0)
	wantSpot(t, "A:"+xs(997)+"\r\n", api.ErrField, 998)
}

func TestExamplesOfCheck(t *testing.T) {
	wantCheck(t, "A", wire(" x/ y"), api.OK)
	wantCheck(t, "A", wire("x/y"), api.ErrFold)
	wantCheck(t, "A", wire("x/ "), api.ErrFold)
	wantCheck(t, "A", wire("x/"), api.ErrFold)
	wantCheck(t, "A:", "", api.ErrField)
	wantCheck(t, "", "", api.ErrField)
	wantCheck(t, "A", "\r", api.ErrField)
}

func TestExampleOfUnfold(t *testing.T) {
	if s := field.Unfold(wire(" x/ y/\tz/w")); s != wire(" x y\tz/w") {
		t.Fatalf("Unfold: %q", s)
	}
}

func TestExamplesOfFold(t *testing.T) {
	wantFold(t, "To", " ann, bob, cy", 10, wire(" ann,/ bob, cy"), api.OK)
	wantFold(t, "To", " a  b ", 4, wire(" a/  b "), api.OK)
	wantFold(t, "To", " abcdef", 4, " abcdef", api.OK)
	wantFold(t, "To", "a", 0, "", api.ErrArg)
	wantFold(t, "T o", "a", 9, "", api.ErrField)
	wantFold(t, "To", wire("a/b"), 9, "", api.ErrField)
}

func TestExampleOfFind(t *testing.T) {
	if at := field.Find(fields("A", "", "b", "", "a", ""), "a"); !slices.Equal(at, []int{0, 2}) {
		t.Fatalf("Find: %v", at)
	}
}
