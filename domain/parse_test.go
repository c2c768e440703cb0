package domain_test

import (
	"strings"
	"testing"
	"unicode/utf8"

	"posthorn/api"
	"posthorn/domain"
)

const (
	letDigs = "ABCDEFGHIJKLMNOPQRSTUVWXYZabcdefghijklmnopqrstuvwxyz0123456789"
	a63     = "aaaaaaaaaaaaaaaaaaaaaaaaaaaaaaaaaaaaaaaaaaaaaaaaaaaaaaaaaaaaaaa"
)

func has(s string, c byte) bool { return strings.IndexByte(s, c) >= 0 }

// wellFormed is how many bytes the longest beginning has that is well-formed.
func wellFormed(s string) int {
	n := len(s)
	for !utf8.ValidString(s[:n]) {
		n--
	}
	return n
}

// labelWrong tells whether P8.3 names the place p of a domain as wrong.
func labelWrong(s string, wide bool, p int) bool {
	begin := strings.LastIndexByte(s[:p], '.') + 1
	if p == len(s) || s[p] == '.' {
		return p == 0 || s[p-1] == '-' || s[p-1] == '.'
	}
	letter := has(letDigs, s[p]) || s[p] > 127 && wide && p < wellFormed(s)
	return !letter && s[p] != '-' || p-begin == 63 || s[p] == '-' && p == begin
}

// domainSpot is what P8.3 says of a domain.
func domainSpot(s string, wide bool) api.Spot {
	if len(s) > 255 {
		return api.Spot{Err: api.ErrDomain, At: 255}
	}
	for p := range len(s) + 1 {
		if labelWrong(s, wide, p) {
			return api.Spot{Err: api.ErrLabel, At: p}
		}
	}
	return api.Spot{}
}

// mayStand tells whether a byte may stand in the text of a tagged literal.
func mayStand(c byte) bool { return 33 <= c && c <= 126 && !has("[]\\", c) }

// tagSpot is what P8.3 says of a tagged one, with the place counted in t.
func tagSpot(t string) api.Spot {
	colon := strings.IndexByte(t, ':')
	for p := range colon {
		if !has(letDigs+"-", t[p]) {
			return api.Spot{Err: api.ErrTag, At: p}
		}
	}
	if colon == 0 || t[colon-1] == '-' {
		return api.Spot{Err: api.ErrTag, At: colon}
	}
	for p := colon + 1; p < len(t); p++ {
		if !mayStand(t[p]) {
			return api.Spot{Err: api.ErrTag, At: p}
		}
	}
	if colon == len(t)-1 {
		return api.Spot{Err: api.ErrTag, At: len(t)}
	}
	return api.Spot{}
}

// saysSixth tells whether a text begins with IPv6: in any capitals.
func saysSixth(t string) bool {
	return len(t) >= 5 && strings.ToLower(t[:5]) == "ipv6:"
}

// parsed is what P8.3 says.
func parsed(s string, wide bool) (api.Host, api.Spot) {
	if !strings.HasPrefix(s, "[") {
		if spot := domainSpot(s, wide); spot.Err != 0 {
			return api.Host{}, spot
		}
		return api.Host{Kind: 1, Name: s}, api.Spot{}
	}
	if len(s) > 255 {
		return api.Host{}, api.Spot{Err: api.ErrAddr, At: 255}
	}
	if s[len(s)-1] != ']' {
		return api.Host{}, api.Spot{Err: api.ErrAddr, At: len(s)}
	}
	t := s[1 : len(s)-1]
	if saysSixth(t) {
		a, ok := isSixth(t[5:])
		if !ok {
			return api.Host{}, api.Spot{Err: api.ErrAddr, At: 6 + sixthBegins().longest(t[5:])}
		}
		return api.Host{Kind: 3, Addr: a}, api.Spot{}
	}
	if has(t, ':') {
		if spot := tagSpot(t); spot.Err != 0 {
			return api.Host{}, api.Spot{Err: spot.Err, At: spot.At + 1}
		}
		return api.Host{Kind: 4, Name: t}, api.Spot{}
	}
	a, ok := isFourth(t)
	if !ok {
		return api.Host{}, api.Spot{Err: api.ErrAddr, At: 1 + fourthBegins().longest(t)}
	}
	return fourth(a[0], a[1], a[2], a[3]), api.Spot{}
}

// checkParse holds Parse against the model, and what follows of it (P8.4, P8.5, P8.9).
func checkParse(t *testing.T, s string) {
	t.Helper()
	for _, wide := range []bool{false, true} {
		want, spot := parsed(s, wide)
		h, got := domain.Parse(s, wide)
		if h != want || got != spot {
			t.Errorf("Parse(%q, %v): %v, %v, want %v, %v", s, wide, h, got, want, spot)
		}
		if got.Err != api.OK {
			continue
		}
		checkBack(t, s, h, wide)
	}
}

// checkBack holds Print of what Parse told against the text.
func checkBack(t *testing.T, s string, h api.Host, wide bool) {
	t.Helper()
	if e := domain.Check(h, wide); e != api.OK {
		t.Errorf("Check of Parse(%q, %v): %d", s, wide, e)
	}
	text, e := domain.Print(h)
	if e != api.OK || h.Kind != api.HostV6 && text != s {
		t.Errorf("Print of Parse(%q): %q, %d", s, text, e)
	}
	if again, spot := domain.Parse(text, wide); again != h || spot != (api.Spot{}) {
		t.Errorf("Parse(%q): %v, %v, want %v", text, again, spot, h)
	}
}

// P8.3, P8.9, R4: all short rows of what stands in domains.
func TestParseShortDomains(t *testing.T) {
	rows([]string{"a", "Z", "9", "-", ".", "_", "\xc3\xbc", "\xc3"}, 5, func(s string) { checkParse(t, s) })
	rows([]string{"a", "-", ".", "[", "]", ":", "\xe2\x82\xac", "\xe2\x82"}, 5, func(s string) { checkParse(t, s) })
}

// P8.3: each byte, at each place, of a domain and of literals of all kinds.
func TestParseNearGoodOnes(t *testing.T) {
	for _, s := range []string{
		"mx.example", "a-b.c1", "a", "\xc3\xbc.de", "x\xf0\x9f\x92\xa9y.\xe2\x82\xac",
		"[1.2.3.4]", "[IPv6:1::2]", "[ipV6:::1.2.3.4]", "[x-y:z]", "[A1:!~]", "[x::]",
	} {
		around(s, everyByte(), func(s string) { checkParse(t, s) })
	}
	rows([]string{"[", "]", ":", "1", ".", "-", "x", "IPv6:"}, 5, func(s string) { checkParse(t, "["+s+"]"); checkParse(t, "["+s) })
}

// P8.3: each byte in a tag and in a text.
func TestParseTags(t *testing.T) {
	for c := range 256 {
		b := string([]byte{byte(c)})
		for _, s := range []string{"[" + b + ":x]", "[" + b + "t:x]", "[t" + b + "t:x]", "[t" + b + ":x]", "[t:" + b + "]", "[t:x" + b + "]", "[t:" + b + "x]"} {
			checkParse(t, s)
		}
	}
	for _, s := range []string{"[IPv6:x]", "[ipv6:x]", "[IPV6:]", "[iPv6x:y]", "[xIPv6:y]", "[IPv6-1:y]", "[IPv6]", "[IPv4:1.2.3.4]", "[IPv7:1]", "[ipv6-:1]"} {
		checkParse(t, s)
	}
	for m := range 16 {
		s := []byte("ipv6")
		for i := range s {
			if m>>i&1 == 1 && i < 3 {
				s[i] -= 32
			}
		}
		checkParse(t, "["+string(s)+":2001:DB8::1]")
		checkParse(t, "["+string(s)+":2001:DB8:1]")
	}
}

// P8.3: what is long, and one byte longer.
func TestParseLongOnes(t *testing.T) {
	for n := 245; n <= 260; n++ {
		checkParse(t, "[x:"+strings.Repeat("y", n-4)+"]")
		checkParse(t, "[x:"+strings.Repeat("y", n-3))
		checkParse(t, "["+strings.Repeat("x", n-4)+":y]")
		checkParse(t, "[IPv6:"+strings.Repeat("0", n-7)+"]")
		checkParse(t, "[IPv6:"+strings.Repeat("1:", n-7)+"]")
		checkParse(t, "["+strings.Repeat("1", n-2)+"]")
		checkParse(t, strings.Repeat("ab.", 100)[:n])
		checkParse(t, strings.Repeat("a.", 150)[:n])
		checkParse(t, strings.Repeat("_", n))
		checkParse(t, strings.Repeat("\xc3\xbc.", 100)[:n])
		checkParse(t, (a63 + "." + a63 + "." + a63 + "." + a63 + "bbbbbbb")[:n])
	}
	for n := 58; n <= 70; n++ {
		l := strings.Repeat("b", n)
		wide := strings.Repeat("\xc3\xbc", n)
		for _, s := range []string{l, l + ".x", "x." + l, "x." + l + ".y", l[1:] + "-", l[1:] + "-c", "-" + l, l[1:] + "_", l[1:] + ".", wide[:n], wide[:n] + ".x", "a" + wide[:n-1], "a." + wide[:n], wide[:n-1] + "\xff"} {
			checkParse(t, s)
		}
	}
	for _, s := range []string{strings.Repeat("a", 1<<20), "[" + strings.Repeat("a", 1<<20), "[" + strings.Repeat("a", 1<<20) + "]", strings.Repeat("\xff", 1<<20)} {
		checkParse(t, s)
	}
}

// P8.3: the places of wrong bytes, without the model.
func TestPlacesOfDomains(t *testing.T) {
	for _, c := range []struct {
		s    string
		wide bool
		at   int
	}{
		{"a.b.", true, 4}, {".", false, 0}, {"..", false, 0}, {"-", false, 0}, {"a-", false, 2}, {"a.-b", false, 2}, {"a b", false, 1}, {"a.b\xc3", true, 3},
		{"\xc3\xbc\xc3", true, 2}, {"a\xed\xa0\x80", true, 1}, {"\xc3\xbc-", true, 3}, {"-\xc3\xbc", true, 0}, {"\xc3\xbc..", true, 3}, {"x" + a63, false, 63}, {"y." + a63 + "x", false, 65},
		{a63[:62] + "\xc3\xbc", true, 63}, {"\xff_", false, 0}, {"_\xff", true, 0}, {"a]", false, 1}, {"a[1.2.3.4]", false, 1},
	} {
		if h, spot := domain.Parse(c.s, c.wide); h != (api.Host{}) || spot != (api.Spot{Err: api.ErrLabel, At: c.at}) {
			t.Errorf("Parse(%q, %v): %v, %v", c.s, c.wide, h, spot)
		}
	}
}

// P8.9: capitals stay in domains and tagged ones, and what of an address can be written otherwise is
// written in one way.
func TestPrintWhatWasParsed(t *testing.T) {
	for s, want := range map[string]string{
		"Mx.Example": "Mx.Example", "[Tag:Text]": "[Tag:Text]", "[10.0.0.1]": "[10.0.0.1]", "[iPV6:ABCD::0001]": "[IPv6:abcd::1]",
		"[IPv6:1:0:0:0:0:0:0:0]": "[IPv6:1::]", "[IPv6:::1.2.3.4]": "[IPv6:::102:304]", "[IPv6:::]": "[IPv6:::]", "\xc3\xbc.DE": "\xc3\xbc.DE",
	} {
		h, spot := domain.Parse(s, true)
		text, e := domain.Print(h)
		if spot != (api.Spot{}) || e != api.OK || text != want {
			t.Errorf("Print of Parse(%q): %q, %d, %v", s, text, e, spot)
		}
	}
}
