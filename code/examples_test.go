package code_test

import (
	"strings"
	"testing"

	"posthorn/api"
	"posthorn/code"
)

// The rows of the chapter's section Examples, one test a call. As there, a slash stands for CR LF in the
// texts of Quote and Rows.

func slashed(s string) string { return strings.ReplaceAll(s, "/", "\r\n") }

func TestExamplesOfBase64(t *testing.T) {
	for _, c := range []struct{ b, want string }{{"", ""}, {"M", "TQ=="}, {"Ma", "TWE="}, {"Man", "TWFu"}, {"\xff\xfe\xfd", "//79"}} {
		if got := code.Base64([]byte(c.b)); got != c.want {
			t.Errorf("Base64(%q) = %q", c.b, got)
		}
	}
}

func TestExamplesOfUnbase64(t *testing.T) {
	for _, c := range []struct {
		s, want string
		spot    api.Spot
	}{
		{"TWE=", "Ma", api.Spot{}}, {"", "", api.Spot{}},
		{"TWE", "", api.Spot{Err: api.ErrPad, At: 3}}, {"T", "", api.Spot{Err: api.ErrPad, At: 1}},
		{"TWF=", "", api.Spot{Err: api.ErrPad, At: 3}}, {"TR==", "", api.Spot{Err: api.ErrPad, At: 2}},
		{"T===", "", api.Spot{Err: api.ErrPad, At: 1}}, {"TQ=A", "", api.Spot{Err: api.ErrPad, At: 3}}, {"TQ==TQ==", "", api.Spot{Err: api.ErrPad, At: 4}},
		{"T!", "", api.Spot{Err: api.ErrLetter, At: 1}}, {"TQ==!", "", api.Spot{Err: api.ErrLetter, At: 4}}, {"TWFu ", "", api.Spot{Err: api.ErrLetter, At: 4}},
	} {
		if b, spot := code.Unbase64(c.s); string(b) != c.want || spot != c.spot {
			t.Errorf("Unbase64(%q) = %q, %v", c.s, b, spot)
		}
	}
}

func TestExamplesOfRows(t *testing.T) {
	for _, c := range []struct {
		b    string
		most int
		want string
		e    api.Errno
	}{
		{"ManManM", 4, "TWFu/TWFu/TQ==/", api.OK}, {"", 4, "", api.OK}, {"M", 3, "", api.ErrArg}, {"M", 80, "", api.ErrArg},
	} {
		if s, e := code.Rows([]byte(c.b), c.most); s != slashed(c.want) || e != c.e {
			t.Errorf("Rows(%q, %d) = %q, %d", c.b, c.most, s, e)
		}
	}
}

func TestExamplesOfReaders(t *testing.T) {
	r := code.New()
	feed := func(in, want string, wantE api.Errno) {
		t.Helper()
		if b, e := r.Feed([]byte(in)); string(b) != want || e != wantE {
			t.Errorf("Feed(%q) = %q, %d", in, b, e)
		}
	}
	closes := func(want api.Errno) {
		t.Helper()
		if e := r.Close(); e != want {
			t.Errorf("Close = %d, not %d", e, want)
		}
	}
	feed("TW", "", api.OK)
	feed("Fu\r", "Man", api.OK)
	feed("\nTQ", "", api.OK)
	closes(api.ErrPad)
	feed("==", "M", api.OK)
	closes(api.OK)
	feed("A", "", api.ErrPad)
	feed("TWFu", "", api.ErrPad)
	closes(api.ErrPad)

	r = code.New()
	feed("TWFu!TWFu", "Man", api.ErrLetter)
	closes(api.ErrLetter)
}

func TestExamplesOfQuote(t *testing.T) {
	for _, c := range []struct{ b, want string }{
		{"a=b", "a=3Db"}, {"a ", "a=20"}, {"a b", "a b"}, {"a\r\nb", "a/b"}, {"\r", "=0D"}, {"\xe9", "=E9"},
		{strings.Repeat("a", 76), strings.Repeat("a", 76)}, {strings.Repeat("a", 77), strings.Repeat("a", 75) + "=/aa"},
		{"", ""},
	} {
		if got := code.Quote([]byte(c.b)); got != slashed(c.want) {
			t.Errorf("Quote(%q) = %q", c.b, got)
		}
	}
}

func TestExamplesOfUnquote(t *testing.T) {
	wrong := func(at int) api.Spot { return api.Spot{Err: api.ErrQuoted, At: at} }
	for _, c := range []struct {
		s, want string
		spot    api.Spot
	}{
		{"", "", api.Spot{}}, {"a=3db", "a=b", api.Spot{}}, {"a=\r\nb", "ab", api.Spot{}},
		{"a=", "", wrong(2)}, {"a \r\n", "", wrong(2)}, {"a ", "", wrong(2)}, {"=G1", "", wrong(1)}, {"a\n", "", wrong(1)},
		{strings.Repeat("a", 77), "", wrong(76)},
	} {
		if b, spot := code.Unquote(c.s); string(b) != c.want || spot != c.spot {
			t.Errorf("Unquote(%q) = %q, %v", c.s, b, spot)
		}
	}
}
