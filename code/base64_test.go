package code_test

import (
	"bytes"
	"encoding/base64"
	"math"
	"math/rand"
	"slices"
	"strings"
	"testing"

	"posthorn/api"
	"posthorn/code"
)

const letters = "ABCDEFGHIJKLMNOPQRSTUVWXYZabcdefghijklmnopqrstuvwxyz0123456789+/"

// random is a row of n bytes of all sorts, from a source that begins the same way each time.
func random(r *rand.Rand, n int) []byte {
	b := make([]byte, n)
	for i := range b {
		b[i] = byte(r.Intn(256))
	}
	return b
}

// rows are rows of bytes of all sorts, the same ones each time; up to 240 bytes each length is among them.
func rows() [][]byte {
	l := [][]byte{nil, {}, {0}, {255}, {0, 0}, {255, 255}, {0, 0, 0}, {255, 255, 255}, []byte("Man"), []byte("\r\n"), []byte("=")}
	r := rand.New(rand.NewSource(1))
	for n := range 241 {
		l = append(l, random(r, n))
	}
	return append(l, random(r, 4095), random(r, 4096), random(r, 65537))
}

// written is the chapter's base64 text, bit by bit as it tells it.
func written(b []byte) string {
	var bits []int
	for _, c := range b {
		for i := 7; i >= 0; i-- {
			bits = append(bits, int(c>>i&1))
		}
	}
	for len(bits)%6 != 0 {
		bits = append(bits, 0)
	}
	var s strings.Builder
	for i := 0; i < len(bits); i += 6 {
		n := 0
		for _, bit := range bits[i : i+6] {
			n = 2*n + bit
		}
		s.WriteByte(letters[n])
	}
	for s.Len()%4 != 0 {
		s.WriteByte('=')
	}
	return s.String()
}

// isText tells whether s is a base64 text, as another reader has it; and of which bytes.
func isText(s string) ([]byte, bool) {
	b, err := base64.StdEncoding.Strict().DecodeString(s)
	// That reader passes over CR and LF, which the chapter does not.
	return b, err == nil && !strings.ContainsAny(s, "\r\n")
}

// begins tells whether some base64 text begins with s: the letter A says 0, so it fits wherever a letter does.
func begins(s string) bool {
	for _, tail := range []string{"", "A", "=", "AA", "A=", "==", "AAA", "AA=", "A=="} {
		if _, ok := isText(s + tail); ok {
			return true
		}
	}
	return false
}

// wrongWith is the error that the chapter has for a byte with which a text does not go on.
func wrongWith(c byte) api.Errno {
	if c == '=' || strings.IndexByte(letters, c) >= 0 {
		return api.ErrPad
	}
	return api.ErrLetter
}

// unbase64 is what the chapter says of Unbase64.
func unbase64(s string) ([]byte, api.Spot) {
	for p := range len(s) {
		if !begins(s[:p+1]) {
			return nil, api.Spot{Err: wrongWith(s[p]), At: p}
		}
	}
	b, ok := isText(s)
	if !ok {
		return nil, api.Spot{Err: api.ErrPad, At: len(s)}
	}
	return b, api.Spot{}
}

// checkUnbase64 holds Unbase64 against the chapter.
func checkUnbase64(t *testing.T, s string) {
	t.Helper()
	want, wantSpot := unbase64(s)
	if got, spot := code.Unbase64(s); !bytes.Equal(got, want) || spot != wantSpot {
		t.Errorf("Unbase64(%q) = %q, %v, want %q, %v", s, got, spot, want, wantSpot)
	}
}

// spelt calls do with each text of up to most bytes out of these.
func spelt(of string, most int, do func(string)) {
	do("")
	if most == 0 {
		return
	}
	for i := range len(of) {
		spelt(of, most-1, func(s string) { do(of[i:i+1] + s) })
	}
}

// P4.1, P4.9
func TestBase64(t *testing.T) {
	for _, b := range rows() {
		got := code.Base64(b)
		if want := written(b); got != want || got != base64.StdEncoding.EncodeToString(b) {
			t.Errorf("Base64 of %d bytes: %q, want %q", len(b), got, want)
		}
		if len(got) != (len(b)+2)/3*4 {
			t.Errorf("Base64 of %d bytes has %d letters", len(b), len(got))
		}
	}
	if code.Base64(nil) != "" || code.Base64([]byte{}) != "" {
		t.Error("Base64 of nil or of no bytes is not empty")
	}
}

// P4.1: each pair of bytes at each place of three.
func TestBase64OfEveryPair(t *testing.T) {
	for n := range 1 << 16 {
		b := []byte{byte(n >> 8), byte(n), byte(n >> 3)}
		for _, l := range [][]byte{b[:1], b[:2], b, {7, b[0], b[1]}} {
			if got := code.Base64(l); got != base64.StdEncoding.EncodeToString(l) {
				t.Fatalf("Base64(%x) = %q", l, got)
			}
		}
	}
}

// P4.2, P4.7
func TestUnbase64ReadsWhatIsWritten(t *testing.T) {
	for _, b := range rows() {
		s := code.Base64(b)
		got, spot := code.Unbase64(s)
		if !bytes.Equal(got, b) || spot != (api.Spot{}) {
			t.Errorf("%d bytes, there and back: %d bytes, %v", len(b), len(got), spot)
		}
		if code.Base64(got) != s {
			t.Errorf("%d bytes, written again: another text", len(b))
		}
	}
}

// P4.2
func TestUnbase64CutShort(t *testing.T) {
	for _, b := range []string{"a", "ab", "abc", "Many mails", "Many mails!", "Many mails!!", "\xff\xfe\xfd\xfc"} {
		s := code.Base64([]byte(b))
		for n := range len(s) + 1 {
			_, spot := code.Unbase64(s[:n])
			if n%4 != 0 && spot != (api.Spot{Err: api.ErrPad, At: n}) {
				t.Errorf("Unbase64(%q): %v", s[:n], spot)
			}
			checkUnbase64(t, s[:n])
		}
	}
}

// P4.2: each byte at each place of a text, in the place of what stood there, and between.
func TestUnbase64OfEveryByteAnywhere(t *testing.T) {
	for _, s := range []string{"", "TQ==", "TWE=", "TWFu", "TWFuTQ==", "TWFuTWE=", "AAAAAAAA", "////+/8="} {
		for c := range 256 {
			one := string([]byte{byte(c)})
			for p := range len(s) + 1 {
				checkUnbase64(t, s[:p]+one+s[p:])
				if p < len(s) {
					checkUnbase64(t, s[:p]+one+s[p+1:])
				}
			}
		}
	}
}

// P4.2: B has bits that must be 0 ahead of one = and of two, E ahead of two alone, A and Q have none.
func TestUnbase64OfShortTexts(t *testing.T) {
	spelt("ABEQ=!\n", 6, func(s string) { checkUnbase64(t, s) })
	spelt("AE=", 9, func(s string) { checkUnbase64(t, s) })
}

// P4.2: each letter ahead of one = and of two.
func TestUnbase64OfBitsThatMustBeNought(t *testing.T) {
	for n, c := range letters {
		two, one := "A"+string(c)+"==", "AA"+string(c)+"="
		if _, spot := code.Unbase64(two); (spot == api.Spot{}) != (n%16 == 0) || n%16 != 0 && spot != (api.Spot{Err: api.ErrPad, At: 2}) {
			t.Errorf("Unbase64(%q): %v", two, spot)
		}
		if _, spot := code.Unbase64(one); (spot == api.Spot{}) != (n%4 == 0) || n%4 != 0 && spot != (api.Spot{Err: api.ErrPad, At: 3}) {
			t.Errorf("Unbase64(%q): %v", one, spot)
		}
	}
}

// P4.2: behind the end, and ahead of it, far from the beginning.
func TestUnbase64OfLongTexts(t *testing.T) {
	long := strings.Repeat("TWFu", 5000)
	for _, c := range []struct {
		s    string
		spot api.Spot
	}{
		{long, api.Spot{}},
		{long + "TQ==", api.Spot{}},
		{long + "T", api.Spot{Err: api.ErrPad, At: 20001}},
		{long + "=", api.Spot{Err: api.ErrPad, At: 20000}},
		{long + "TQ==" + long, api.Spot{Err: api.ErrPad, At: 20004}},
		{long + "TQ==\r\n", api.Spot{Err: api.ErrLetter, At: 20004}},
		{long + "-" + long, api.Spot{Err: api.ErrLetter, At: 20000}},
		{long + "TQ==" + "\xe9", api.Spot{Err: api.ErrLetter, At: 20004}},
	} {
		b, spot := code.Unbase64(c.s)
		if spot != c.spot || c.spot.Err != api.OK && len(b) != 0 {
			t.Errorf("%d letters: %d bytes, %v, want %v", len(c.s), len(b), spot, c.spot)
		}
	}
}

// P4.3
func TestRowsOfEveryMost(t *testing.T) {
	mosts := []int{math.MinInt, -76, -8, -4, -1, 100, 152, 1 << 32, 1<<32 + 4, 1<<40 + 76, math.MaxInt - 3, math.MaxInt}
	for most := range 90 {
		mosts = append(mosts, most)
	}
	for _, most := range mosts {
		for _, b := range rows()[:130] {
			s, e := code.Rows(b, most)
			if most < 4 || most > 76 || most%4 != 0 {
				if s != "" || e != api.ErrArg {
					t.Errorf("Rows of %d bytes, %d: %q, %d", len(b), most, s, e)
				}
				continue
			}
			var want string
			for rest := written(b); rest != ""; {
				n := min(most, len(rest))
				want += rest[:n] + "\r\n"
				rest = rest[n:]
			}
			if s != want || e != api.OK {
				t.Errorf("Rows of %d bytes, %d: %q, %d, want %q", len(b), most, s, e, want)
			}
		}
	}
}

// P4.3: a row that is just filled has one line end behind it, and no row follows.
func TestRowsThatAreJustFilled(t *testing.T) {
	for most := 4; most <= 76; most += 4 {
		b := bytes.Repeat([]byte("Man"), most/4)
		row := strings.Repeat("TWFu", most/4) + "\r\n"
		for _, c := range []struct {
			b    []byte
			want string
		}{{b, row}, {append(slices.Clone(b), b...), row + row}, {append(slices.Clone(b), 'M'), row + "TQ==\r\n"}} {
			if s, e := code.Rows(c.b, most); s != c.want || e != api.OK {
				t.Errorf("Rows of %d bytes, %d: %q, %d", len(c.b), most, s, e)
			}
		}
		if s, e := code.Rows(nil, most); s != "" || e != api.OK {
			t.Errorf("Rows(nil, %d) = %q, %d", most, s, e)
		}
	}
}
