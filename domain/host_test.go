package domain_test

import (
	"math"
	"math/rand"
	"strings"
	"testing"

	"posthorn/api"
	"posthorn/domain"
	"posthorn/runes"
)

// checked is what P8.4 says.
func checked(h api.Host, wide bool) api.Errno {
	zero := func(l []byte) bool {
		for _, c := range l {
			if c != 0 {
				return false
			}
		}
		return true
	}
	switch {
	case h.Kind < 1 || h.Kind > 4:
		return api.ErrArg
	case (h.Kind == 1 || h.Kind == 4) && !zero(h.Addr[:]):
		return api.ErrArg
	case (h.Kind == 2 || h.Kind == 3) && h.Name != "":
		return api.ErrArg
	case h.Kind == 2 && !zero(h.Addr[4:]):
		return api.ErrArg
	case h.Kind == 1:
		return domainSpot(h.Name, wide).Err
	case h.Kind == 4 && len(h.Name) > 253:
		return api.ErrAddr
	case h.Kind == 4 && (!has(h.Name, ':') || saysSixth(h.Name) || tagSpot(h.Name).Err != 0):
		return api.ErrTag
	}
	return api.OK
}

// names are Names of all sorts.
func names() []string {
	l := []string{
		"", "a", "A", "a.b", "A.b", "a.B", "1.2.3.4", "a-b", "a_b", "-", "a.", "a..b", "[", "[1.2.3.4]", "[a]", "[" + strings.Repeat("a", 255), a63, a63 + "a", a63 + "." + a63 + "." + a63 + "." + a63, a63 + "." + a63 + "." + a63 + "." + a63 + "b",
		"x:y", "X:y", "x:Y", "x:y:z", "X:y:z", "x:Y:z", "x:", ":y", "x-:y", "x-z:y", "X-Z:y", "x", "x:a b", "x:[", "ipv6:x", "IPv6:::1", "IPV6:", "ipv6", "ipv6-1:x", "xipv6:1", "x\xc3\xbc:y", "x:\xc3\xbc",
		"\xc3\xbc", "\xc3\x9c", "\xc3", "\xff", "a\xc3\xbc", "A\xc3\xbc", "B\xc3\xbccher.DE", "b\xc3\xbcCHER.de", "xn--bcher-kva.de", "XN--BCHER-KVA.DE", "xn--tda", "XN--tda", "xn--a-tda", "xn--", "xn---", "xn--99999999",
		"\xe2\x82\xac.\xf0\x9f\x92\xa9", "x.\xc3\xbc", "\xc3\xbc.\xc3\xbc", "\xc3\xbc.xn--tda", "xn--tda.xn--tda",
	}
	for n := 250; n <= 256; n++ {
		l = append(l, "x:"+strings.Repeat("y", n-2), "X:"+strings.Repeat("y", n-2), strings.Repeat("x", n), strings.Repeat("a.", 150)[:n], "x:"+strings.Repeat(" ", n-2), "ipv6:"+strings.Repeat("1", n-5))
	}
	for n := 1; n <= 32; n++ {
		l = append(l, strings.Repeat("\xc3\xbc", n), strings.Repeat("\xe2\x82\xac", n), strings.Repeat("\xf0\x9f\x92\xa9", n), strings.Repeat("A", 20)+strings.Repeat("\xc3\xbc", n), strings.Repeat("A", n)+"\xc3\xbc"+strings.Repeat("b", n))
	}
	for n := 50; n <= 62; n++ {
		l = append(l, strings.Repeat("A", n)+"\xc3\xbc", strings.Repeat("a", n)+"\xc3\xbc", "\xc3\xbc"+strings.Repeat("a", n))
	}
	// A wide label at the end makes the domain longer by some bytes: so it has 255 and 256 with some of these.
	for n := 235; n <= 252; n++ {
		l = append(l, strings.Repeat("a.", 150)[:n&^1]+strings.Repeat("b", n&1)+".\xc3\xbc", strings.Repeat("A.", 150)[:n&^1]+strings.Repeat("b", n&1+1)+".\xc3\xbc")
	}
	return l
}

// hosts are hosts of all sorts, also such as no call answers.
func hosts() []api.Host {
	var l []api.Host
	for _, s := range names() {
		for kind := -1; kind <= 6; kind++ {
			l = append(l, api.Host{Kind: kind, Name: s})
		}
	}
	for kind := -1; kind <= 6; kind++ {
		for i := range 16 {
			h := api.Host{Kind: kind}
			h.Addr[i] = 1
			l = append(l, h)
			h.Name = "a:b"
			l = append(l, h)
			h.Name = "a"
			l = append(l, h)
			h.Addr[i] = 128
			l = append(l, h)
		}
	}
	return append(l, api.Host{Kind: math.MaxInt}, api.Host{Kind: math.MinInt, Name: "a"}, api.Host{Kind: 1 + 1<<32, Name: "a"}, api.Host{Kind: 257, Name: "a"})
}

// P8.4, R1, R8
func TestCheck(t *testing.T) {
	for _, h := range hosts() {
		for _, wide := range []bool{false, true} {
			if e := domain.Check(h, wide); e != checked(h, wide) {
				t.Errorf("Check(%v, %v): %d, want %d", h, wide, e, checked(h, wide))
			}
		}
	}
	rows([]string{"x", "-", ":", " ", "IPv6:", "[", "."}, 4, func(s string) {
		for kind := range 6 {
			h := api.Host{Kind: kind, Name: s}
			if e := domain.Check(h, false); e != checked(h, false) {
				t.Errorf("Check(%v): %d, want %d", h, e, checked(h, false))
			}
		}
	})
}

// P8.4: which error comes first, without the model.
func TestOrderOfChecks(t *testing.T) {
	one := [16]byte{15: 1}
	for _, c := range []struct {
		h    api.Host
		want api.Errno
	}{
		{api.Host{}, api.ErrArg}, {api.Host{Kind: 1, Addr: one}, api.ErrArg}, {api.Host{Kind: 1}, api.ErrLabel}, {api.Host{Kind: 1, Name: "[1.2.3.4]"}, api.ErrLabel}, {api.Host{Kind: 1, Name: "[" + strings.Repeat("a", 255)}, api.ErrDomain},
		{api.Host{Kind: 4, Name: strings.Repeat("x", 254), Addr: one}, api.ErrArg}, {api.Host{Kind: 4, Name: strings.Repeat("x", 254)}, api.ErrAddr}, {api.Host{Kind: 4, Name: strings.Repeat("x", 253)}, api.ErrTag}, {api.Host{Kind: 4}, api.ErrTag},
		{api.Host{Kind: 4, Name: "IPv6:::1"}, api.ErrTag}, {api.Host{Kind: 2, Addr: one}, api.ErrArg}, {api.Host{Kind: 3, Addr: one}, api.OK}, {api.Host{Kind: 3, Name: " "}, api.ErrArg}, {api.Host{Kind: 2, Name: " "}, api.ErrArg},
	} {
		if e := domain.Check(c.h, true); e != c.want {
			t.Errorf("Check(%v): %d, want %d", c.h, e, c.want)
		}
	}
}

// P8.5, P8.9, R4
func TestPrint(t *testing.T) {
	for _, h := range hosts() {
		s, e := domain.Print(h)
		if want := checked(h, true); e != want || e != api.OK && s != "" {
			t.Errorf("Print(%v): %q, %d, want %d", h, s, e, want)
		}
		if e != api.OK {
			continue
		}
		want := h.Name
		switch h.Kind {
		case 2:
			want = "[" + domain.PrintV4([4]byte(h.Addr[:4])) + "]"
		case 3:
			want = "[IPv6:" + domain.PrintV6(h.Addr) + "]"
		case 4:
			want = "[" + h.Name + "]"
		}
		if s != want {
			t.Errorf("Print(%v): %q, want %q", h, s, want)
		}
		for _, wide := range []bool{false, true} {
			if checked(h, wide) != api.OK {
				continue
			}
			if back, spot := domain.Parse(s, wide); back != h || spot != (api.Spot{}) {
				t.Errorf("Parse(%q, %v): %v, %v, want %v", s, wide, back, spot, h)
			}
		}
	}
}

// smallLetters is a text with small letters in the place of capital ones; bytes above 127 stay.
func smallLetters(s string) string {
	return strings.Map(func(r rune) rune {
		if 'A' <= r && r <= 'Z' {
			return r + 32
		}
		return r
	}, s)
}

// inAscii is what P8.6 says.
func inAscii(h api.Host) (api.Host, api.Errno) {
	if e := checked(h, true); e != api.OK {
		return api.Host{}, e
	}
	if h.Kind == 4 {
		tag, text, _ := strings.Cut(h.Name, ":")
		h.Name = smallLetters(tag) + ":" + text
	}
	if h.Kind != 1 {
		return h, api.OK
	}
	var labels []string
	wrong := api.OK
	for _, label := range strings.Split(smallLetters(h.Name), ".") {
		for i := range len(label) {
			if label[i] > 127 {
				puny, _ := runes.Puny([]rune(label))
				label = "xn--" + puny
				break
			}
		}
		if len(label) > 63 {
			wrong = api.ErrLabel
		}
		labels = append(labels, label)
	}
	h.Name = strings.Join(labels, ".")
	if wrong == api.OK && len(h.Name) > 255 {
		wrong = api.ErrDomain
	}
	if wrong != api.OK {
		return api.Host{}, wrong
	}
	return h, api.OK
}

// P8.6, P8.12, R4, R5
func TestAscii(t *testing.T) {
	seen := map[api.Errno]int{}
	for _, h := range hosts() {
		want, e := inAscii(h)
		got, f := domain.Ascii(h)
		if got != want || f != e {
			t.Errorf("Ascii(%v): %v, %d, want %v, %d", h, got, f, want, e)
		}
		if checked(h, true) == api.OK {
			seen[f]++
		}
		if f != api.OK {
			continue
		}
		if again, e := domain.Ascii(got); again != got || e != api.OK {
			t.Errorf("Ascii twice of %v: %v, %d", h, again, e)
		}
		if !domain.Same(got, h) || !domain.Same(h, got) {
			t.Errorf("Ascii(%v) is not the Same", h)
		}
		if domain.Check(got, false) != api.OK || got.Kind == 1 && strings.ContainsAny(got.Name, letDigs[:26]) {
			t.Errorf("Ascii(%v): %v", h, got)
		}
	}
	if seen[api.OK] < 50 || seen[api.ErrLabel] < 10 || seen[api.ErrDomain] < 4 {
		t.Errorf("what Ascii answered of hosts that may be: %v", seen)
	}
}

// P8.6: labels of 63 and 64 bytes, domains of 255 and 256 bytes, and which error comes first, without the
// model. (The Punycode of a row of a and one u with two dots behind them ends with -tfb and the like.)
func TestAsciiOfLongOnes(t *testing.T) {
	label := func(n int) int {
		h, e := domain.Ascii(name(strings.Repeat("a", n) + "\xc3\xbc"))
		if e != api.OK {
			return -int(e)
		}
		return len(h.Name)
	}
	n := 0
	for label(n) > 0 {
		n++
	}
	if label(n-1) != 63 || label(n) != -int(api.ErrLabel) {
		t.Errorf("the longest label: %d bytes, then %d", label(n-1), label(n))
	}
	ends := strings.Repeat("a.", 150)[:248] // and xn--tda: 255
	if h, e := domain.Ascii(name(ends + "\xc3\xbc")); e != api.OK || len(h.Name) != 255 {
		t.Errorf("a domain of 255 bytes: %v, %d", h, e)
	}
	if h, e := domain.Ascii(name("a" + ends + "\xc3\xbc")); e != api.ErrDomain || h != (api.Host{}) {
		t.Errorf("a domain of 256 bytes: %v, %d", h, e)
	}
	wrong := strings.Repeat("a", 61) + "\xc3\xbc"
	for _, s := range []string{wrong + "." + ends[:178] + "\xc3\xbc", ends[:178] + wrong} {
		if h, e := domain.Ascii(name(s)); e != api.ErrLabel || h != (api.Host{}) {
			t.Errorf("a label too long: %v, %d", h, e)
		}
	}
	if h, e := domain.Ascii(tagged("X-Y:Z")); h != tagged("x-y:Z") || e != api.OK {
		t.Errorf("a tagged one: %v, %d", h, e)
	}
}

// sameHosts is what P8.7 says.
func sameHosts(a, b api.Host) bool {
	if checked(a, true) != api.OK || checked(b, true) != api.OK || a.Kind != b.Kind {
		return false
	}
	if a.Kind == 2 || a.Kind == 3 {
		return a.Addr == b.Addr
	}
	if a.Kind == 4 {
		tag, text, _ := strings.Cut(a.Name, ":")
		other, says, _ := strings.Cut(b.Name, ":")
		return smallLetters(tag) == smallLetters(other) && text == says
	}
	first, e := inAscii(a)
	second, f := inAscii(b)
	if e != api.OK || f != api.OK {
		return smallLetters(a.Name) == smallLetters(b.Name)
	}
	return first == second
}

// P8.7, P8.11: each two hosts that may be, and some that may not.
func TestSame(t *testing.T) {
	var l []api.Host
	for i, h := range hosts() {
		if checked(h, true) == api.OK || i%37 == 0 {
			l = append(l, h)
		}
	}
	class := make([]int, len(l)) // the first host that is the Same: so being the Same goes on from two to the third
	for i, a := range l {
		class[i] = i
		for j, b := range l {
			same := domain.Same(a, b)
			if same != sameHosts(a, b) {
				t.Errorf("Same(%v, %v): %v", a, b, same)
			}
			if same != domain.Same(b, a) {
				t.Errorf("Same(%v, %v) is not Same the other way round", a, b)
			}
			if same && j < class[i] {
				class[i] = j
			}
		}
		if may := checked(a, true) == api.OK; domain.Same(a, a) != may {
			t.Errorf("Same(%v) and itself", a)
		}
	}
	for i, a := range l {
		for j, b := range l {
			if may := checked(a, true) == api.OK; may && (class[i] == class[j]) != domain.Same(a, b) {
				t.Errorf("Same(%v, %v) and a third one", a, b)
			}
		}
	}
}

// P8.7: domains that Ascii refuses are the same but for capitals.
func TestSameOfRefusedOnes(t *testing.T) {
	long := strings.Repeat("a", 60) + "\xc3\xbc"
	if _, e := domain.Ascii(name(long)); e != api.ErrLabel {
		t.Fatalf("Ascii: %d", e)
	}
	if !domain.Same(name(long), name(long)) || !domain.Same(name(long), name(strings.ToUpper(long[:60])+long[60:])) {
		t.Error("a domain that Ascii refuses and itself")
	}
	if domain.Same(name(long), name(strings.Repeat("b", 60)+"\xc3\xbc")) || domain.Same(name(long), name(strings.Repeat("a", 60)+"\xc3\x9c")) || domain.Same(name(long), name("a")) || domain.Same(name("a"), name(long)) {
		t.Error("a domain that Ascii refuses and others")
	}
}

// within is what P8.8 says: bit by bit.
func within(a, net api.Host, bits int) bool {
	if checked(a, false) != api.OK || checked(net, false) != api.OK || a.Kind != net.Kind {
		return false
	}
	if most := map[int]int{2: 32, 3: 128}; a.Kind != 2 && a.Kind != 3 || bits < 0 || bits > most[a.Kind] {
		return false
	}
	for i := range bits {
		if (a.Addr[i/8]^net.Addr[i/8])>>(7-i%8)&1 == 1 {
			return false
		}
	}
	return true
}

func checkWithin(t *testing.T, a, net api.Host) {
	t.Helper()
	more := false
	for bits := 130; bits >= -2; bits-- {
		got := domain.Within(a, net, bits)
		if got != within(a, net, bits) {
			t.Errorf("Within(%v, %v, %d): %v", a, net, bits, got)
		}
		if bits >= 0 && more && !got {
			t.Errorf("Within(%v, %v, %d) does not hold, but with more bits", a, net, bits)
		}
		more = got
	}
	for _, bits := range []int{math.MinInt, math.MaxInt, math.MinInt32, math.MaxInt32, 256, -256, 1 << 32} {
		if domain.Within(a, net, bits) {
			t.Errorf("Within(%v, %v, %d)", a, net, bits)
		}
	}
}

// P8.8, P8.13: addresses that differ in one bit alone, at each place.
func TestWithin(t *testing.T) {
	r := rand.New(rand.NewSource(3))
	for kind, bits := range map[int]int{2: 32, 3: 128} {
		for range 5 {
			a := api.Host{Kind: kind}
			for i := range bits / 8 {
				a.Addr[i] = byte(r.Intn(256))
			}
			checkWithin(t, a, a)
			for i := range bits {
				b := a
				b.Addr[i/8] ^= 128 >> (i % 8)
				checkWithin(t, a, b)
			}
			b := api.Host{Kind: kind}
			checkWithin(t, a, b)
			if !domain.Within(a, b, 0) || domain.Within(a, b, bits) != domain.Same(a, b) || !domain.Within(a, a, bits) {
				t.Errorf("Within of no bits and of all: %v", a)
			}
		}
	}
}

// P8.8, R8: of hosts that may not be, of other kinds, and of two kinds it does not hold.
func TestWithinOfOthers(t *testing.T) {
	l := []api.Host{
		{}, {Kind: 1, Name: "a"}, {Kind: 4, Name: "a:b"}, {Kind: 2}, {Kind: 3}, {Kind: 2, Name: "a"}, {Kind: 3, Name: "a"}, {Kind: 2, Addr: [16]byte{4: 1}}, {Kind: 5}, {Kind: -1}, {Kind: 1, Name: "\xc3\xbc"}, {Kind: 1}, {Kind: 4},
	}
	for _, a := range l {
		for _, b := range l {
			checkWithin(t, a, b)
		}
	}
	if domain.Within(l[3], l[4], 0) || domain.Within(l[1], l[1], 0) || domain.Within(l[7], l[7], 0) || domain.Within(l[5], l[3], 0) {
		t.Error("Within of what has no bits to be asked for")
	}
}

// R2: the same call answers the same, whatever came between.
func TestNothingIsLeftBehind(t *testing.T) {
	first, _ := domain.Ascii(name("B\xc3\xbccher.DE"))
	domain.V6("::x")
	domain.Parse("[x-:y]", true)
	domain.Ascii(name(strings.Repeat("\xc3\xbc", 31)))
	if again, _ := domain.Ascii(name("B\xc3\xbccher.DE")); again != first {
		t.Error("Ascii answers otherwise")
	}
}
