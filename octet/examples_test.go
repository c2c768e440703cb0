package octet_test

import (
	"testing"

	"posthorn/api"
	"posthorn/octet"
)

// The rows of the chapter's section Examples, one test a call.

func TestExamplesOfIs(t *testing.T) {
	for _, c := range []struct {
		class int
		b     byte
		want  bool
	}{
		{octet.Atom, '!', true}, {octet.Atom, '.', false}, {octet.Quoted, 32, true}, {octet.Quoted, '"', false}, {octet.Shown, 9, true}, {octet.High, 128, true},
		{0, 'a', false}, {15, 'a', false}, {-1, 0, false},
	} {
		if got := octet.Is(c.class, c.b); got != c.want {
			t.Errorf("Is(%d, %d) = %v", c.class, c.b, got)
		}
	}
}

func TestExamplesOfBad(t *testing.T) {
	for _, c := range []struct {
		class int
		s     string
		want  int
	}{{octet.Digit, "12a4", 2}, {octet.Digit, "12", 2}, {octet.Digit, "", 0}, {99, "x", 0}} {
		if got := octet.Bad(c.class, c.s); got != c.want {
			t.Errorf("Bad(%d, %q) = %d", c.class, c.s, got)
		}
	}
}

func TestExamplesOfSpan(t *testing.T) {
	for _, c := range []struct {
		s          string
		from, want int
	}{{"ab12c", 2, 4}, {"ab12c", 0, 0}, {"ab12", 2, 4}, {"12", 2, 2}, {"12", 7, 7}, {"12", -3, -3}} {
		if got := octet.Span(octet.Digit, c.s, c.from); got != c.want {
			t.Errorf("Span(Digit, %q, %d) = %d", c.s, c.from, got)
		}
	}
}

func TestExamplesOfCapitals(t *testing.T) {
	if got := octet.Upper("aZ-{é"); got != "AZ-{é" {
		t.Errorf("Upper = %q", got)
	}
	if !octet.Same("Mail", "mAIL") {
		t.Error("Mail and mAIL are not the same")
	}
	if octet.Same("[", "{") {
		t.Error("[ and { are the same")
	}
}

func TestExamplesOfNumber(t *testing.T) {
	for _, c := range []struct {
		s       string
		most, n uint64
		e       api.Errno
	}{
		{"007", 9, 7, api.OK}, {"18446744073709551615", 1<<64 - 1, 18446744073709551615, api.OK},
		{"10", 9, 0, api.ErrRange}, {"99999999999999999999", 1<<64 - 1, 0, api.ErrRange},
		{"", 9, 0, api.ErrDigits}, {"-1", 9, 0, api.ErrDigits}, {"000000000000000000001", 9, 0, api.ErrDigits},
	} {
		if n, e := octet.Number(c.s, c.most); n != c.n || e != c.e {
			t.Errorf("Number(%q, %d) = %d, %d", c.s, c.most, n, e)
		}
	}
	if octet.Decimal(0) != "0" {
		t.Errorf("Decimal(0) = %q", octet.Decimal(0))
	}
	if got := octet.Decimal(18446744073709551615); got != "18446744073709551615" {
		t.Errorf("Decimal of the greatest number = %q", got)
	}
}

func TestExamplesOfHex(t *testing.T) {
	if got := octet.HexOf([]byte{0, 255, 26}); got != "00FF1A" {
		t.Errorf("HexOf = %q", got)
	}
	for _, c := range []struct {
		s, want string
		spot    api.Spot
	}{
		{"00ff1A", "\x00\xff\x1a", api.Spot{}}, {"", "", api.Spot{}},
		{"0g1", "", api.Spot{Err: api.ErrDigits, At: 1}}, {"012", "", api.Spot{Err: api.ErrDigits, At: 3}}, {"0é", "", api.Spot{Err: api.ErrDigits, At: 1}},
	} {
		if b, spot := octet.Unhex(c.s); string(b) != c.want || spot != c.spot {
			t.Errorf("Unhex(%q) = %q, %v", c.s, b, spot)
		}
	}
}
