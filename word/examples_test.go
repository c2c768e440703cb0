package word_test

import (
	"fmt"
	"testing"

	"posthorn/api"
	"posthorn/word"
)

// The chapter's section Examples, row by row.

// bad is an error at a place.
func bad(e api.Errno, at int) api.Spot { return api.Spot{Err: e, At: at} }

// short is a text as a failure tells it; a great one is not told whole.
func short(s string) string { return fmt.Sprintf("%d bytes %.200q", len(s), s) }

// wantEncode asks for an Encode that writes all.
func wantEncode(t *testing.T, s string, brief bool, want string) {
	t.Helper()
	if got, e := word.Encode(s, brief); got != want || e != api.OK {
		t.Fatalf("Encode(%s, %v): %s, %d, want %s", short(s), brief, short(got), e, short(want))
	}
}

// wantNoUTF8 asks for an Encode that writes nothing, either way.
func wantNoUTF8(t *testing.T, s string) {
	t.Helper()
	for _, brief := range []bool{false, true} {
		if got, e := word.Encode(s, brief); got != "" || e != api.ErrUtf {
			t.Fatalf("Encode(%s, %v): %s, %d", short(s), brief, short(got), e)
		}
	}
}

// wantDecode asks for a Decode that reads all.
func wantDecode(t *testing.T, s, want string) {
	t.Helper()
	if got, spot := word.Decode(s); got != want || spot != (api.Spot{}) {
		t.Fatalf("Decode(%s): %s, %v, want %s", short(s), short(got), spot, short(want))
	}
}

// wantSpot asks for a Decode that finds what is wrong, and tells nothing else.
func wantSpot(t *testing.T, s string, e api.Errno, at int) {
	t.Helper()
	if got, spot := word.Decode(s); got != "" || spot != bad(e, at) {
		t.Fatalf("Decode(%s): %s, %v, want %v", short(s), short(got), spot, bad(e, at))
	}
}

// wantNeeds asks Needs.
func wantNeeds(t *testing.T, s string, want bool) {
	t.Helper()
	if word.Needs(s) != want {
		t.Fatalf("Needs(%s): not %v", short(s), want)
	}
}

func TestExamplesOfEncode(t *testing.T) {
	wantEncode(t, "Gr\u00fc\u00dfe", false, "=?UTF-8?B?R3LDvMOfZQ==?=")
	wantEncode(t, "Gr\u00fc\u00dfe", true, "=?UTF-8?B?R3LDvMOfZQ==?=")
	if longer := "=?UTF-8?Q?Gr=C3=BC=C3=9Fe?="; len(longer) <= len("=?UTF-8?B?R3LDvMOfZQ==?=") {
		t.Fatalf("%q is not longer", longer)
	}
	wantDecode(t, "=?UTF-8?Q?Gr=C3=BC=C3=9Fe?=", "Gr\u00fc\u00dfe")
	wantEncode(t, "a b\u00e9", true, "=?UTF-8?B?YSBiw6k=?=")
	wantEncode(t, "a b\u00e9", false, "=?UTF-8?B?YSBiw6k=?=")
	wantDecode(t, "=?UTF-8?Q?a_b=C3=A9?=", "a b\u00e9")
	wantEncode(t, "abcdefghi", true, "=?UTF-8?Q?abcdefghi?=")
	wantEncode(t, "", true, "")
	wantNoUTF8(t, "a\xff")
}

func TestExamplesOfDecode(t *testing.T) {
	wantDecode(t, "a =?utf-8?q?b?=  =?UTF-8?B?Yw==?= d", "a bc d")
	wantDecode(t, "=?iso-8859-1?Q?caf=e9_au?=", "caf\u00e9 au")
	wantDecode(t, "=?us-ascii*en?q?x=3D?=", "x=")
}

func TestExamplesOfWrongWords(t *testing.T) {
	wantSpot(t, "=?x?Q?a?=", api.ErrCharset, 2)
	wantSpot(t, "=?UTF-8?B?YQ?=", api.ErrWord, 12)
	wantSpot(t, "=?UTF-8?Q?a=4?=", api.ErrWord, 11)
	wantSpot(t, "=?UTF-8?Q?=FF?=", api.ErrWord, 10)
	wantSpot(t, "=?us-ascii?q?=80?=", api.ErrWord, 13)
}

func TestExamplesOfNearlyEncodedWords(t *testing.T) {
	for _, s := range []string{"=?UTF-8?X?a?=", "x=?UTF-8?Q?a?=", "=?UTF-8?Q?a b?=", "=??Q?a?="} {
		wantDecode(t, s, s)
	}
}

func TestExamplesOfNeeds(t *testing.T) {
	wantNeeds(t, "a b", false)
	wantNeeds(t, "=?", false)
	wantNeeds(t, "=?x?q??=", true)
	wantNeeds(t, "\u00e9", true)
	wantNeeds(t, "a\r", true)
}
