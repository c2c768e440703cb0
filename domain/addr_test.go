package domain_test

import (
	"math/rand"
	"strconv"
	"strings"
	"testing"

	"posthorn/api"
	"posthorn/domain"
)

// isNumber tells whether a text is a number from 0 to 255 of as few digits as it takes.
func isNumber(s string) bool {
	n, err := strconv.ParseUint(s, 10, 8)
	return err == nil && strconv.FormatUint(n, 10) == s
}

// isFourth tells whether a text is an address of the fourth kind, in the chapter's words, and its bytes.
func isFourth(s string) (a [4]byte, ok bool) {
	l := strings.Split(s, ".")
	if len(l) != 4 {
		return a, false
	}
	for i, part := range l {
		if !isNumber(part) {
			return [4]byte{}, false
		}
		n, _ := strconv.Atoi(part)
		a[i] = byte(n)
	}
	return a, true
}

// groupsOf are the groups of a text with a colon between each two; none, if the text is empty.
func groupsOf(s string) (l []uint16, ok bool) {
	if s == "" {
		return nil, true
	}
	for _, part := range strings.Split(s, ":") {
		n, err := strconv.ParseUint(part, 16, 16)
		if err != nil || len(part) > 4 || strings.Trim(part, "0123456789abcdefABCDEF") != "" {
			return nil, false
		}
		l = append(l, uint16(n))
	}
	return l, true
}

// isSixth tells whether a text is an address of the sixth kind, in the chapter's words, and its bytes. An
// address of the fourth kind at the end is written as two groups first.
func isSixth(s string) (a [16]byte, ok bool) {
	last := strings.LastIndexByte(s, ':') + 1
	if strings.Contains(s[last:], ".") {
		four, is := isFourth(s[last:])
		if !is {
			return a, false
		}
		high, low := uint64(four[0])<<8+uint64(four[1]), uint64(four[2])<<8+uint64(four[3])
		s = s[:last] + strconv.FormatUint(high, 16) + ":" + strconv.FormatUint(low, 16)
	}
	head, tail, gap := strings.Cut(s, "::")
	first, ok := groupsOf(head)
	second, right := groupsOf(tail)
	if !ok || !right {
		return a, false
	}
	n := len(first) + len(second)
	if gap && n > 6 || !gap && n != 8 {
		return a, false
	}
	return sixteen(append(append(first, make([]uint16, 8-n)...), second...)...), true
}

// fourthEnds and sixthEnds are texts of which one, behind any beginning of an address, makes it whole.
func fourthEnds() []string {
	return []string{"", "0", ".0", "0.0", ".0.0", "0.0.0", ".0.0.0", "0.0.0.0"}
}

func sixthEnds() []string {
	l := fourthEnds()
	for k := range 9 {
		rest := strings.Repeat(":0", k)
		l = append(l, rest, "0"+rest, ":"+rest, "::"+rest)
	}
	return l
}

// begins holds which texts are beginnings of an address; those asked for are kept, as most come often.
type begins struct {
	ends  []string
	whole func(string) bool
	kept  map[string]bool
}

func (b *begins) is(s string) bool {
	if is, ok := b.kept[s]; ok {
		return is
	}
	is := false
	for _, end := range b.ends {
		is = is || b.whole(s+end)
	}
	b.kept[s] = is
	return is
}

// longest is how many bytes the longest beginning of s has that is one of an address. (What stands behind
// a text that is none is none either.)
func (b *begins) longest(s string) int {
	n := 0
	for n < len(s) && b.is(s[:n+1]) {
		n++
	}
	return n
}

func fourthBegins() *begins {
	return &begins{fourthEnds(), func(s string) bool { _, ok := isFourth(s); return ok }, map[string]bool{}}
}

func sixthBegins() *begins {
	return &begins{sixthEnds(), func(s string) bool { _, ok := isSixth(s); return ok }, map[string]bool{}}
}

func checkFourth(t *testing.T, b *begins, s string) {
	t.Helper()
	want, ok := isFourth(s)
	spot := api.Spot{}
	if !ok {
		want, spot = [4]byte{}, api.Spot{Err: api.ErrAddr, At: b.longest(s)}
	}
	if a, got := domain.V4(s); a != want || got != spot {
		t.Errorf("V4(%q): %v, %v, want %v, %v", s, a, got, want, spot)
	}
}

func checkSixth(t *testing.T, b *begins, s string) {
	t.Helper()
	want, ok := isSixth(s)
	spot := api.Spot{}
	if !ok {
		want, spot = [16]byte{}, api.Spot{Err: api.ErrAddr, At: b.longest(s)}
	}
	if a, got := domain.V6(s); a != want || got != spot {
		t.Errorf("V6(%q): %v, %v, want %v, %v", s, a, got, want, spot)
	}
}

// rows calls f of all rows of at most so many of the parts.
func rows(parts []string, most int, f func(string)) {
	var more func(s string, left int)
	more = func(s string, left int) {
		f(s)
		if left == 0 {
			return
		}
		for _, p := range parts {
			more(s+p, left-1)
		}
	}
	more("", most)
}

// around calls f of all beginnings of s, and of s with each byte left out, doubled, and put for another.
func around(s string, bytes string, f func(string)) {
	for i := range len(s) + 1 {
		f(s[:i])
		for j := range len(bytes) {
			f(s[:i] + bytes[j:j+1] + s[i:])
			if i < len(s) {
				f(s[:i] + bytes[j:j+1] + s[i+1:])
			}
		}
		if i < len(s) {
			f(s[:i] + s[i+1:])
		}
	}
}

// everyByte is each byte once.
func everyByte() string {
	b := make([]byte, 256)
	for i := range b {
		b[i] = byte(i)
	}
	return string(b)
}

// P8.1, R4: all short rows of what stands in an address of the fourth kind, and everything near good ones.
func TestFourth(t *testing.T) {
	b := fourthBegins()
	rows([]string{"0", "1", "25", "6", ".", ".2.", "99", "x"}, 6, func(s string) { checkFourth(t, b, s) })
	for _, s := range []string{"1.2.3.4", "0.0.0.0", "255.255.255.255", "10.20.30.40", "249.250.251.252", "199.200.99.100"} {
		around(s, everyByte(), func(s string) { checkFourth(t, b, s) })
	}
	for n := range 1100 {
		checkFourth(t, b, strconv.Itoa(n)+".1.1.1")
		checkFourth(t, b, "1.1.1."+strconv.Itoa(n))
		checkFourth(t, b, "1.0"+strconv.Itoa(n)+".1.1")
	}
	for _, s := range []string{strings.Repeat("1", 1<<20), strings.Repeat("1.", 1<<19), "1.2.3.4" + strings.Repeat(" ", 1<<20)} {
		checkFourth(t, b, s)
	}
}

// P8.1, R4: all short rows of what stands in an address of the sixth kind.
func TestSixthOfShortRows(t *testing.T) {
	b := sixthBegins()
	rows([]string{":", "1", "0", ".", "F", "25", "1:2:3:4:", "::", "1.2.3.4"}, 5, func(s string) { checkSixth(t, b, s) })
	rows([]string{":", "1", ".", "g"}, 7, func(s string) { checkSixth(t, b, s) })
}

// sixthForms are addresses with the two colons in every place, with every number of groups that may be and
// some that may not, with an address of the fourth kind at each place.
func sixthForms() []string {
	var l []string
	for head := range 10 {
		for tail := range 10 {
			first, second := make([]string, head), make([]string, tail)
			for i := range first {
				first[i] = strconv.FormatInt(int64(0xabc*(i+1)), 16)
			}
			for i := range second {
				second[i] = strconv.FormatInt(int64(i), 16)
			}
			l = append(l, strings.Join(first, ":")+"::"+strings.Join(second, ":"), strings.Join(append(first, second...), ":"))
			for i := range second {
				kept := second[i]
				second[i] = "10.2.255.0"
				l = append(l, strings.Join(first, ":")+"::"+strings.Join(second, ":"), strings.Join(append(first, second...), ":"))
				second[i] = kept
			}
			for i := range first {
				kept := first[i]
				first[i] = "1.2.3.4"
				l = append(l, strings.Join(first, ":")+"::"+strings.Join(second, ":"))
				first[i] = kept
			}
		}
	}
	return l
}

// P8.1, R4: two colons beside any number of groups, and addresses of the fourth kind anywhere.
func TestSixthOfForms(t *testing.T) {
	b := sixthBegins()
	good := 0
	for _, s := range sixthForms() {
		checkSixth(t, b, s)
		checkSixth(t, b, strings.ToUpper(s))
		checkSixth(t, b, s+":")
		checkSixth(t, b, ":"+s)
		if _, ok := isSixth(s); ok {
			good++
		}
	}
	if good < 50 {
		t.Errorf("only %d good addresses", good)
	}
}

// P8.1, R4: everything near good addresses.
func TestSixthNearGoodOnes(t *testing.T) {
	b := sixthBegins()
	for _, s := range []string{
		"1:2:3:4:5:6:7:8", "FFFF:ffff:aBcD:1234:0:00:000:0000", "::", "::1", "1::", "1:2:3:4:5:6::", "::1:2:3:4:5:6", "1:2:3::4:5:6",
		"1:2:3:4:5:6:255.0.10.9", "::1.2.3.4", "1::2:3:4:250.251.252.253", "1:2:3:4::9.8.7.6", "2001:db8::8a2e:370:7334",
	} {
		around(s, everyByte(), func(s string) { checkSixth(t, b, s) })
	}
	for n := range 1100 {
		checkSixth(t, b, "::"+strconv.Itoa(n)+".1.1.1")
		checkSixth(t, b, "::1.1.1."+strconv.Itoa(n))
		checkSixth(t, b, "1:2:3:4:5:6:0"+strconv.Itoa(n)+".1.1.1")
	}
	for _, s := range []string{strings.Repeat("a", 1<<20), strings.Repeat(":", 1<<20), strings.Repeat("a:", 1<<19), "::1" + strings.Repeat(".", 1<<20)} {
		checkSixth(t, b, s)
	}
}

// P8.1: what the chapter's words come to, without the model.
func TestPlacesOfSixth(t *testing.T) {
	for s, at := range map[string]int{
		"": 0, ":": 1, ":1": 1, ":::": 2, "1": 1, "1:": 2, "12345": 4, "g": 0, "1:2:3:4:5:6:7": 13, "1:2:3:4:5:6:7:": 14, "1:2:3:4:5:6:7:8:": 15,
		"1:2:3:4:5:6::7": 13, "::1:2:3:4:5:6:7": 13, "1.2.3.4": 1, "1:2:3:4:5:1.2.3.4": 11, "1:2:3:4:5:6:7:1.2.3.4": 15, "::1:2:3:4:5:1.2.3.4": 13,
		"::1.2.3": 7, "::1.2.3.4:": 9, "::1.2.3.4::": 9, "::01.2.3.4": 4, "::1.02.3.4": 5, "::a.1.1.1": 3, "::1000.1.1.1": 6, "1::2::": 5,
	} {
		if a, spot := domain.V6(s); spot != (api.Spot{Err: api.ErrAddr, At: at}) || a != [16]byte{} {
			t.Errorf("V6(%q): %v, %v", s, a, spot)
		}
	}
}

// printedSixth is the text of an address, in the chapter's words: the longest row is looked for first.
func printedSixth(l []uint16) string {
	join := func(l []uint16) string {
		var texts []string
		for _, n := range l {
			texts = append(texts, strconv.FormatUint(uint64(n), 16))
		}
		return strings.Join(texts, ":")
	}
	for length := 8; length >= 2; length-- {
		for from := 0; from+length <= 8; from++ {
			zero := true
			for _, n := range l[from : from+length] {
				zero = zero && n == 0
			}
			if zero {
				return join(l[:from]) + "::" + join(l[from+length:])
			}
		}
	}
	return join(l)
}

// P8.2, P8.10: rows of zero groups of every length and place.
func TestPrintSixth(t *testing.T) {
	values := []uint16{1, 0xf, 0x10, 0xff, 0x100, 0xfff, 0x1000, 0xffff}
	for zeros := range 256 {
		for turn := range values {
			l := make([]uint16, 8)
			for i := range l {
				if zeros>>i&1 == 0 {
					l[i] = values[(i+turn)%8]
				}
			}
			a := sixteen(l...)
			s := domain.PrintV6(a)
			if want := printedSixth(l); s != want {
				t.Errorf("PrintV6(%v): %s, want %s", a, s, want)
			}
			if back, spot := domain.V6(s); back != a || spot != (api.Spot{}) {
				t.Errorf("V6(%s): %v, %v", s, back, spot)
			}
		}
	}
	for n := range 1 << 16 {
		if s := domain.PrintV6(sixteen(1, uint16(n), 1, 1, 1, 1, 1, 1)); s != "1:"+strconv.FormatInt(int64(n), 16)+":1:1:1:1:1:1" {
			t.Errorf("PrintV6 of the group %x: %s", n, s)
		}
	}
}

// P8.2, P8.10
func TestPrintFourth(t *testing.T) {
	r := rand.New(rand.NewSource(8))
	check := func(a [4]byte) {
		s := domain.PrintV4(a)
		want := strconv.Itoa(int(a[0])) + "." + strconv.Itoa(int(a[1])) + "." + strconv.Itoa(int(a[2])) + "." + strconv.Itoa(int(a[3]))
		if back, spot := domain.V4(s); s != want || back != a || spot != (api.Spot{}) {
			t.Errorf("PrintV4(%v): %s, and back %v, %v", a, s, back, spot)
		}
	}
	for n := range 256 {
		for i := range 4 {
			var a [4]byte
			a[i] = byte(n)
			check(a)
		}
	}
	for range 20000 {
		check([4]byte{byte(r.Intn(256)), byte(r.Intn(256)), byte(r.Intn(256)), byte(r.Intn(256))})
	}
}

// P8.10
func TestSixthThereAndBack(t *testing.T) {
	r := rand.New(rand.NewSource(9))
	for range 20000 {
		var a [16]byte
		for i := range a {
			if r.Intn(3) > 0 {
				a[i] = byte(r.Intn(256))
			}
		}
		if back, spot := domain.V6(domain.PrintV6(a)); back != a || spot != (api.Spot{}) {
			t.Errorf("V6(PrintV6(%v)): %v, %v", a, back, spot)
		}
	}
}
