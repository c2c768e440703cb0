package code_test

import (
	"bytes"
	"encoding/hex"
	"io"
	"math/rand"
	"mime/quotedprintable"
	"regexp"
	"slices"
	"strings"
	"testing"

	"posthorn/api"
	"posthorn/code"
)

var (
	rowSigns = regexp.MustCompile(`^(?:[!-<>-~]|[ \t]|=[0-9A-Fa-f]{2})*=?$`)
	byDigits = regexp.MustCompile(`=[0-9A-Fa-f]{2}`)
)

// meant tells whether s is one of the chapter's quoted-printable texts, and what it means.
func meant(s string) (string, bool) {
	var b strings.Builder
	l := strings.Split(s, "\r\n")
	for i, row := range l {
		last := i == len(l)-1
		soft := strings.HasSuffix(row, "=")
		if len(row) > 76 || !rowSigns.MatchString(row) || strings.HasSuffix(row, " ") || strings.HasSuffix(row, "\t") || soft && last {
			return "", false
		}
		b.WriteString(byDigits.ReplaceAllStringFunc(strings.TrimSuffix(row, "="), func(sign string) string {
			one, _ := hex.DecodeString(sign[1:])
			return string(one)
		}))
		if !soft && !last {
			b.WriteString("\r\n")
		}
	}
	return b.String(), true
}

// beginsQuoted tells whether some quoted-printable text begins with s. (0 is a digit and a sign by itself.)
func beginsQuoted(s string) bool {
	for _, tail := range []string{"", "0", "00", "\r\n", "\n"} {
		if _, ok := meant(s + tail); ok {
			return true
		}
	}
	return false
}

// unquote is what the chapter says of Unquote.
func unquote(s string) (string, api.Spot) {
	for p := range len(s) {
		if !beginsQuoted(s[:p+1]) {
			return "", api.Spot{Err: api.ErrQuoted, At: p}
		}
	}
	b, ok := meant(s)
	if !ok {
		return "", api.Spot{Err: api.ErrQuoted, At: len(s)}
	}
	return b, api.Spot{}
}

// checkUnquote holds Unquote against the chapter.
func checkUnquote(t *testing.T, s string) {
	t.Helper()
	want, wantSpot := unquote(s)
	if got, spot := code.Unquote(s); string(got) != want || spot != wantSpot {
		t.Errorf("Unquote(%q) = %q, %v, want %q, %v", s, got, spot, want, wantSpot)
	}
}

// quote is what the chapter says of Quote, step by step.
func quote(b []byte) string {
	var lines []string
	for _, line := range strings.Split(string(b), "\r\n") {
		var signs []string
		for i := range len(line) {
			c := line[i]
			blank := c == ' ' || c == '\t'
			if 33 <= c && c <= 126 && c != '=' || blank && i < len(line)-1 {
				signs = append(signs, line[i:i+1])
				continue
			}
			signs = append(signs, "="+strings.ToUpper(hex.EncodeToString([]byte{c})))
		}
		rows := []string{""}
		for i, s := range signs {
			row := &rows[len(rows)-1]
			if n := len(*row + s); n <= 75 || n <= 76 && i == len(signs)-1 {
				*row += s
				continue
			}
			*row += "="
			rows = append(rows, s)
		}
		lines = append(lines, strings.Join(rows, "\r\n"))
	}
	return strings.Join(lines, "\r\n")
}

// checkQuote holds Quote against the chapter, and what follows of it, and reads it again.
func checkQuote(t *testing.T, b []byte) { // P4.5, P4.7, P4.9
	t.Helper()
	s := code.Quote(b)
	if want := quote(b); s != want {
		t.Errorf("Quote(%q) = %q, want %q", b, s, want)
	}
	if back, spot := code.Unquote(s); !bytes.Equal(back, b) || spot != (api.Spot{}) {
		t.Errorf("Quote(%q), there and back: %q, %v", b, back, spot)
	}
	if len(s) < len(b) {
		t.Errorf("Quote(%q) is shorter: %q", b, s)
	}
	for i := range len(s) {
		if c := s[i]; (c < 32 || c > 126) && c != 9 && c != '\r' && c != '\n' {
			t.Errorf("Quote(%q) has the byte %d", b, c)
		}
	}
	for _, row := range strings.Split(s, "\r\n") {
		if len(row) > 76 || strings.HasSuffix(row, " ") || strings.HasSuffix(row, "\t") || strings.ContainsAny(row, "\r\n") {
			t.Errorf("Quote(%q) has the row %q", b, row)
		}
	}
}

// P4.5
func TestQuoteOfEveryByte(t *testing.T) {
	var all []byte
	for c := range 256 {
		one := []byte{byte(c)}
		all = append(all, one...)
		for _, l := range [][]byte{one, {'a', byte(c)}, {byte(c), 'a'}, {byte(c), byte(c)}, {byte(c), '\r', '\n'}, {'\r', '\n', byte(c)}, {byte(c), '\n'}, {'\r', byte(c)}} {
			checkQuote(t, l)
		}
	}
	checkQuote(t, all)
	checkQuote(t, append(all, all...))
}

// P4.5
func TestQuoteOfLineEnds(t *testing.T) {
	for _, c := range []struct{ b, want string }{
		{"\r\n", "\r\n"}, {"\r", "=0D"}, {"\n", "=0A"}, {"\n\r", "=0A=0D"}, {"\r\r\n", "=0D\r\n"}, {"\r\n\n", "\r\n=0A"}, {"\r\n\r\n", "\r\n\r\n"}, {"\r\r\n\n", "=0D\r\n=0A"},
		{"a \r\nb\t\r\n c", "a=20\r\nb=09\r\n c"}, {"a  ", "a =20"}, {" ", "=20"}, {"\t", "=09"}, {"\t\t", "\t=09"}, {" \r\n ", "=20\r\n=20"}, {"a \r", "a =0D"}, {"a \n", "a =0A"},
		{"~!=", "~!=3D"}, {"\x7f\x80\x00\x1f", "=7F=80=00=1F"},
	} {
		if got := code.Quote([]byte(c.b)); got != c.want {
			t.Errorf("Quote(%q) = %q, want %q", c.b, got, c.want)
		}
		checkQuote(t, []byte(c.b))
	}
	spelt("a \t=\r\n\xe9", 5, func(s string) { checkQuote(t, []byte(s)) })
}

// P4.5: signs around the end of a row, the line's last one and others.
func TestQuoteAroundTheEndOfARow(t *testing.T) {
	for n := 70; n <= 78; n++ {
		filler := strings.Repeat("a", n)
		spelt("a =\r\n", 4, func(s string) { checkQuote(t, []byte(filler+s)) })
	}
	for n := range 240 {
		for _, c := range []string{"a", " ", "\t", "=", "\xff", "\r"} {
			many := strings.Repeat(c, n)
			checkQuote(t, []byte(many))
			checkQuote(t, []byte("b"+many+"\r\n"+many+"bb"))
		}
	}
}

// P4.5
func TestQuoteRows(t *testing.T) {
	a := strings.Repeat("a", 80)
	e := strings.Repeat("=3D", 30)
	for _, c := range []struct{ b, want string }{
		{a[:75], a[:75]}, {a[:76], a[:76]}, {a[:77], a[:75] + "=\r\naa"}, {a[:76] + "\r\nb", a[:76] + "\r\nb"}, {a[:77] + "\r\n", a[:75] + "=\r\naa\r\n"},
		{a[:73] + "=", a[:73] + "=3D"}, {a[:74] + "=", a[:74] + "=\r\n=3D"}, {a[:72] + "=a", a[:72] + "=3Da"}, {a[:72] + "=aa", a[:72] + "=3D=\r\naa"}, {a[:73] + "=a", a[:73] + "=\r\n=3Da"},
		{a[:75] + " ", a[:75] + "=\r\n=20"}, {a[:73] + " ", a[:73] + "=20"}, {a[:74] + " a", a[:74] + " a"}, {a[:74] + " aa", a[:74] + " =\r\naa"}, {a[:75] + " a", a[:75] + "=\r\n a"},
		{strings.Repeat("=", 25), e[:75]}, {strings.Repeat("=", 26), e[:75] + "=\r\n=3D"}, {strings.Repeat("a", 151), strings.Repeat("a", 75) + "=\r\n" + strings.Repeat("a", 76)},
	} {
		if got := code.Quote([]byte(c.b)); got != c.want {
			t.Errorf("Quote(%q) = %q, want %q", c.b, got, c.want)
		}
	}
	if code.Quote(nil) != "" || code.Quote([]byte{}) != "" {
		t.Error("Quote of nil or of no bytes is not empty")
	}
}

// P4.5, P4.7, P4.9: and what another reader makes of it.
func TestQuoteOfAllSorts(t *testing.T) {
	r := rand.New(rand.NewSource(3))
	l := rows()
	for range 2000 {
		b := make([]byte, r.Intn(400))
		for i := range b {
			b[i] = "aaaaaaaaaaaaab =\t\r\n\xe9"[r.Intn(20)]
		}
		l = append(l, b)
	}
	for _, b := range l {
		checkQuote(t, b)
		other, err := io.ReadAll(quotedprintable.NewReader(strings.NewReader(code.Quote(b))))
		if err != nil || !bytes.Equal(other, b) {
			t.Errorf("another reader of Quote(%q): %q, %v", b, other, err)
		}
	}
}

// P4.6
func TestUnquoteOfShortTexts(t *testing.T) {
	spelt("aG =\r\n4\x7f", 5, func(s string) { checkUnquote(t, s) })
	spelt("=4\r\n ", 7, func(s string) { checkUnquote(t, s) })
}

// P4.6: signs around the end of a row, in the first row and behind others.
func TestUnquoteAroundTheEndOfARow(t *testing.T) {
	for n := 71; n <= 77; n++ {
		filler := strings.Repeat("b", n)
		spelt("a =4\r\n", 4, func(s string) { checkUnquote(t, filler+s) })
		spelt("a =4\r", 3, func(s string) {
			checkUnquote(t, "x\r\n"+filler+s)
			checkUnquote(t, "x=\r\n"+filler+s)
			checkUnquote(t, "\r\n"+filler+s+"\n4\r\n")
		})
	}
}

// P4.6
func TestUnquoteOfEveryByte(t *testing.T) {
	for c := range 256 {
		one := string([]byte{byte(c)})
		for _, s := range []string{one, "a" + one, one + "a", "=" + one, "=" + one + "0", "=4" + one, " " + one, "a\r" + one, "a=\r" + one, "a=\r\n" + one, "a\r\n" + one, one + "\r\n", "=41" + one} {
			checkUnquote(t, s)
		}
	}
}

// P4.6: small and capital digits, and each pair of them.
func TestUnquoteOfDigits(t *testing.T) {
	const digits = "0123456789ABCDEFabcdef"
	value := func(c byte) int { return strings.IndexByte("0123456789abcdef", strings.ToLower(string([]byte{c}))[0]) }
	for i := range len(digits) {
		for j := range len(digits) {
			s := "=" + digits[i:i+1] + digits[j:j+1]
			b, spot := code.Unquote(s)
			if !bytes.Equal(b, []byte{byte(16*value(digits[i]) + value(digits[j]))}) || spot != (api.Spot{}) {
				t.Errorf("Unquote(%q) = %q, %v", s, b, spot)
			}
		}
	}
	if b, spot := code.Unquote("=0d=0A=3D=3d=20"); string(b) != "\r\n== " || spot != (api.Spot{}) {
		t.Errorf("%q, %v", b, spot)
	}
}

// P4.6
func TestUnquoteRows(t *testing.T) {
	a := strings.Repeat("a", 80)
	for _, c := range []struct{ s, want string }{
		{a[:76], a[:76]}, {a[:76] + "\r\n" + a[:76], a[:76] + "\r\n" + a[:76]}, {a[:75] + "=\r\n" + a[:75] + "=\r\n", a[:75] + a[:75]},
		{a[:73] + "=41", a[:73] + "A"}, {a[:74] + " a", a[:74] + " a"}, {a[:74] + " =\r\n", a[:74] + " "}, {a[:72] + "=20=\r\n", a[:72] + " "},
		{"\r\n", "\r\n"}, {"\r\n\r\n", "\r\n\r\n"}, {"=\r\n", ""}, {"=\r\n=\r\n", ""}, {"=\r\n\r\n", "\r\n"}, {" a", " a"}, {"\t=20", "\t "}, {"a =\r\n", "a "},
	} {
		if b, spot := code.Unquote(c.s); string(b) != c.want || spot != (api.Spot{}) {
			t.Errorf("Unquote(%q) = %q, %v", c.s, b, spot)
		}
	}
	for _, c := range []struct {
		s  string
		at int
	}{
		{a[:77], 76}, {a[:76] + "=", 76}, {a[:76] + "=\r\n", 76}, {a[:76] + " ", 76}, {a[:75] + " ", 75}, {a[:75] + "\t", 75}, {a[:75] + "=", 76}, {a[:75] + "=4", 76}, {a[:74] + "=", 75}, {a[:74] + "=41", 75}, {a[:73] + "=4", 75},
		{a[:73] + "=41a", 76}, {a[:74] + " \r\n", 75}, {"ab\r\n" + a[:77], 80}, {"ab=\r\n" + a[:77], 81}, {a[:76] + "\r\n" + a[:77], 154}, {a[:76] + "\r" + a[:2], 77},
		{"=", 1}, {"=4", 2}, {"=\r", 2}, {"\r", 1}, {"\n", 0}, {"a\r\n ", 4}, {"a \t", 3}, {" \r\n", 1}, {"\t\r\na", 1}, {"a= \r\n", 2}, {"=\n", 1}, {"\xe9", 0}, {"\x00", 0}, {"=20\x80", 3},
	} {
		if b, spot := code.Unquote(c.s); len(b) != 0 || spot != (api.Spot{Err: api.ErrQuoted, At: c.at}) {
			t.Errorf("Unquote(%q) = %q, %v, want %d", c.s, b, spot, c.at)
		}
	}
}

// P4.6: what was written, with a byte of it changed, dropped or doubled.
func TestUnquoteOfSpoiltTexts(t *testing.T) {
	r := rand.New(rand.NewSource(4))
	for range 500 {
		b := make([]byte, 1+r.Intn(200))
		for i := range b {
			b[i] = "aaaaaaab =\t\r\n\xe9"[r.Intn(14)]
		}
		s := code.Quote(b)
		at := r.Intn(len(s))
		for _, spoilt := range []string{s[:at], s[:at] + s[at+1:], s[:at] + s[at:at+1] + s[at:], s[:at] + string([]byte{byte(r.Intn(128))}) + s[at+1:]} {
			checkUnquote(t, spoilt)
		}
	}
}

// R2, R3: what is handed in stays as it is, with the room behind its end.
func TestWritersDoNotChangeTheirBytes(t *testing.T) {
	for _, s := range []string{"", "M", "Ma", "Man", "a \r\nb=\xe9", strings.Repeat("a=", 100)} {
		whole := append([]byte(s), "\r\nspare room"...)
		before := slices.Clone(whole)
		b := whole[:len(s)]
		base, quoted := code.Base64(b), code.Quote(b)
		rowed, _ := code.Rows(b, 8)
		if !bytes.Equal(whole, before) {
			t.Errorf("%q became %q", before, whole)
		}
		if base != written([]byte(s)) || quoted != quote([]byte(s)) {
			t.Errorf("%q: the room behind the end is seen", s)
		}
		// What was told does not change with what was handed in.
		again, quotedAgain, rowedAgain := strings.Clone(base), strings.Clone(quoted), strings.Clone(rowed)
		scribble(whole)
		if base != again || quoted != quotedAgain || rowed != rowedAgain {
			t.Errorf("what was told of %q has changed", s)
		}
	}
}

// R2, R3: what is handed out is the caller's, spare room too.
func TestUnwritersTellNewMemory(t *testing.T) {
	for range 2 {
		b, _ := code.Unbase64("TWFuTWE=")
		q, _ := code.Unquote("a=3Db=\r\nc")
		if string(b) != "ManMa" || string(q) != "a=bc" {
			t.Fatalf("%q, %q", b, q)
		}
		b2, _ := code.Unbase64("TWFuTWE=")
		q2, _ := code.Unquote("a=3Db=\r\nc")
		scribble(b)
		scribble(q)
		if string(b2) != "ManMa" || string(q2) != "a=bc" {
			t.Fatalf("%q, %q", b2, q2)
		}
	}
}

// R4
func TestNothingIsToldBesideAnError(t *testing.T) {
	for _, s := range []string{"TWFu!", "TWFuT", "TWFuTR==", "="} {
		if b, spot := code.Unbase64(s); len(b) != 0 || spot.Err == api.OK {
			t.Errorf("Unbase64(%q) = %q, %v", s, b, spot)
		}
	}
	for _, s := range []string{"abc=", "abc ", "abc\x00", "abc\r\n\n"} {
		if b, spot := code.Unquote(s); len(b) != 0 || spot.Err != api.ErrQuoted {
			t.Errorf("Unquote(%q) = %q, %v", s, b, spot)
		}
	}
}
