package param_test

import (
	"fmt"
	"math/rand"
	"regexp"
	"strconv"
	"strings"
	"testing"

	"posthorn/api"
	"posthorn/param"
)

// isXtext are texts that are xtext.
var isXtext = regexp.MustCompile(`^([!-*,-<>-~]|\+[0-9A-F][0-9A-F])*$`)

// beginsXtext tells whether some xtext begins with s.
func beginsXtext(s string) bool {
	return isXtext.MatchString(s) || isXtext.MatchString(s+"0") || isXtext.MatchString(s+"00")
}

// modelUnxtext is what P10.3 says of Unxtext.
func modelUnxtext(s string) (string, api.Spot) {
	for i := range len(s) {
		if !beginsXtext(s[:i+1]) {
			return "", api.Spot{Err: api.ErrXtext, At: i}
		}
	}
	if !isXtext.MatchString(s) {
		return "", api.Spot{Err: api.ErrXtext, At: len(s)}
	}
	parts := strings.Split(s, "+")
	out := []byte(parts[0])
	for _, part := range parts[1:] {
		n, _ := strconv.ParseUint(part[:2], 16, 8)
		out = append(append(out, byte(n)), part[2:]...)
	}
	return string(out), api.Spot{}
}

// modelXtext is what P10.3 says of Xtext.
func modelXtext(s string) string {
	out := ""
	for i := range len(s) {
		if b := s[i]; b > 32 && b < 127 && b != '+' && b != '=' {
			out += s[i : i+1]
		} else {
			out += fmt.Sprintf("+%02X", b)
		}
	}
	return out
}

// checkUnxtext holds Unxtext against the model, and against P10.8.
func checkUnxtext(t *testing.T, s string) {
	t.Helper()
	got, spot := param.Unxtext(s)
	if want, fault := modelUnxtext(s); got != want || spot != fault {
		t.Errorf("Unxtext(%q): %q, %v, want %q, %v", s, got, spot, want, fault)
	}
	if spot.Err == api.OK {
		again := param.Xtext(got)
		if len(again) > len(s) || !isXtext.MatchString(again) {
			t.Errorf("Xtext of what %q says: %q", s, again)
		}
		wantUnxtext(t, again, got)
	}
}

// checkXtext holds Xtext against the model, and against P10.8.
func checkXtext(t *testing.T, s string) {
	t.Helper()
	got := param.Xtext(s)
	if got != modelXtext(s) || !isXtext.MatchString(got) {
		t.Errorf("Xtext(%q): %q, want %q", s, got, modelXtext(s))
	}
	wantUnxtext(t, got, s)
}

// P10.3, P10.8: every byte, alone and in pairs.
func TestXtextOfEveryByte(t *testing.T) {
	checkXtext(t, "")
	checkXtext(t, everyByte())
	for i := range 256 {
		c := string([]byte{byte(i)})
		checkXtext(t, c)
		for j := range 256 {
			checkXtext(t, c+string([]byte{byte(j)}))
		}
		code := fmt.Sprintf("+%02X", i)
		wantUnxtext(t, code, c)
		wantUnxtext(t, "a"+code+"B", "a"+c+"B")
		if small := strings.ToLower(code); small != code {
			at := strings.IndexAny(small, "abcdef")
			wantUnxtextFault(t, small, at)
			wantUnxtextFault(t, "x"+small+"=", at+1)
		}
	}
}

// P10.3, P10.8: each byte in each place, and texts that are cut off.
func TestUnxtextOfEachByte(t *testing.T) {
	for _, s := range []string{"", "a", "ab", "+00", "+FF", "a+2Bb", "+41+42", "+2B+3D", "a+F0+9F+92+A9~", "++", "+=", "é"} {
		around(s, everyByte(), func(s string) { checkUnxtext(t, s) })
	}
	rows([]string{"+", "0", "9", "A", "F", "G", "a", "f", "=", " ", "@", ":", "/"}, 5, func(s string) { checkUnxtext(t, s) })
	for i := range 256 {
		for j := range 256 {
			checkUnxtext(t, "+"+string([]byte{byte(i), byte(j)}))
		}
	}
	for _, c := range []struct {
		s  string
		at int
	}{{"+", 1}, {"+A", 2}, {"a+", 2}, {"a+A", 3}, {"+=", 1}, {"+A=", 2}, {"+4g", 2}, {"+g4", 1}, {"++41", 1}, {"+4+1", 2}, {"+41+", 4}, {"+41+4", 5}, {"+41=", 3}, {" ", 0}, {"a ", 1}, {"\x7f", 0}, {"a\x80", 1}, {"=+", 0}, {"+aA", 1}, {"+Aa", 2}} {
		wantUnxtextFault(t, c.s, c.at)
	}
}

// P10.3, P10.8: at random, and long.
func TestXtextAtRandom(t *testing.T) {
	r := rand.New(rand.NewSource(11))
	for range 5000 {
		b := make([]byte, r.Intn(40))
		for i := range b {
			b[i] = byte(r.Intn(256))
			if r.Intn(2) == 0 {
				b[i] = "+=a0F~! "[r.Intn(8)]
			}
		}
		checkXtext(t, string(b))
		checkUnxtext(t, string(b))
	}
	long := strings.Repeat("+41", 100000)
	wantUnxtext(t, long, strings.Repeat("A", 100000))
	wantUnxtextFault(t, long+"+", len(long)+1)
	if got := param.Xtext(strings.Repeat("+", 100000)); got != strings.Repeat("+2B", 100000) {
		t.Error("Xtext of a long text")
	}
}
