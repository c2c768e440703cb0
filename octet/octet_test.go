package octet_test

import (
	"bytes"
	"math"
	"math/big"
	"math/rand"
	"strconv"
	"strings"
	"testing"

	"posthorn/api"
	"posthorn/octet"
)

// Kinds made of the two that Text stands for.
type (
	ownText  string
	ownBytes []byte
)

const (
	letters = "ABCDEFGHIJKLMNOPQRSTUVWXYZabcdefghijklmnopqrstuvwxyz"
	digits  = "0123456789"
	marks   = "!#$%&'*+-/=?^_{|}~`"
	most64  = math.MaxUint64
)

// row is the bytes from first to last, but those of without.
func row(first, last int, without string) string {
	var b []byte
	for c := first; c <= last; c++ {
		if strings.IndexByte(without, byte(c)) < 0 {
			b = append(b, byte(c))
		}
	}
	return string(b)
}

// members spells the chapter's table out, byte by byte: it is what Is is held against.
func members() map[int]string {
	return map[int]string{
		1:  letters,
		2:  digits,
		3:  letters + digits,
		4:  digits + "ABCDEFabcdef",
		5:  letters + digits + marks,
		6:  row(32, 126, "\"\\"),
		7:  row(33, 126, "[\\]"),
		8:  row(33, 126, "="),
		9:  row(33, 126, "+="),
		10: letters + digits + "-",
		11: row(33, 126, ":"),
		12: row(32, 126, "") + "\t",
		13: row(0, 127, ""),
		14: row(128, 255, ""),
	}
}

func noClasses() []int {
	return []int{0, -1, -2, 15, 16, 99, 127, 128, 255, 256, 257, -255, -256, 1<<32 + 1, math.MaxInt, math.MinInt}
}

// samples are texts of all sorts, the same ones each time.
func samples() []string {
	all := row(0, 255, "")
	l := []string{"", "a", "Z", "0", "\x00", "\xff", "Mail", "12a4", "ab12c", "\xc3", "\xff\xfe", "\u00e9", "\u00df", "\u017f", "\u212a", "\u00ff", all, all + all}
	r := rand.New(rand.NewSource(1))
	for range 300 {
		b := make([]byte, r.Intn(40))
		for i := range b {
			b[i] = byte(r.Intn(256))
			if r.Intn(2) == 0 {
				b[i] = "0129afAFzZ-"[r.Intn(11)]
			}
		}
		l = append(l, string(b))
	}
	return l
}

func TestNumbersOfClasses(t *testing.T) { // P1.1
	got := []int{octet.Alpha, octet.Digit, octet.LetDig, octet.Hex, octet.Atom, octet.Quoted, octet.Plain, octet.Value, octet.Xchar, octet.Label, octet.Name, octet.Shown, octet.Ascii, octet.High}
	for i, n := range got {
		if n != i+1 {
			t.Errorf("class %d has the number %d", i+1, n)
		}
	}
}

func TestIsOfEveryByte(t *testing.T) { // P1.1
	for class, in := range members() {
		for c := range 256 {
			want := strings.IndexByte(in, byte(c)) >= 0
			if octet.Is(class, byte(c)) != want {
				t.Errorf("Is(%d, %d) is %v", class, c, !want)
			}
		}
	}
}

func TestIsOfNoClass(t *testing.T) { // P1.1
	for _, class := range noClasses() {
		for c := range 256 {
			if octet.Is(class, byte(c)) {
				t.Errorf("Is(%d, %d) is true", class, c)
			}
		}
	}
}

func TestClassesFitTogether(t *testing.T) { // P1.9
	for c := range 256 {
		b := byte(c)
		if octet.Is(octet.Ascii, b) == octet.Is(octet.High, b) {
			t.Errorf("%d is of both or none of Ascii and High", c)
		}
		if octet.Is(octet.LetDig, b) != (octet.Is(octet.Alpha, b) || octet.Is(octet.Digit, b)) {
			t.Errorf("%d: LetDig is not Alpha or Digit", c)
		}
	}
}

// span is what the chapter says of Span, from its table and nothing else.
func span(in, s string, from int) int {
	if from < 0 || from >= len(s) {
		return from
	}
	for i := from; i < len(s); i++ {
		if strings.IndexByte(in, s[i]) < 0 {
			return i
		}
	}
	return len(s)
}

func TestSpanAndBad(t *testing.T) { // P1.2, P1.3, P1.9
	classes := members()
	for _, class := range noClasses() {
		classes[class] = ""
	}
	for class, in := range classes {
		for _, s := range samples() {
			want := span(in, s, 0)
			if n := octet.Bad(class, s); n != want {
				t.Errorf("Bad(%d, %q) = %d, not %d", class, s, n, want)
			}
			if octet.Bad(class, []byte(s)) != want || octet.Bad(class, ownText(s)) != want || octet.Bad(class, ownBytes(s)) != want {
				t.Errorf("Bad(%d, %q) of other kinds is not %d", class, s, want)
			}
			for from := -2; from <= len(s)+2; from++ {
				checkSpan(t, class, s, from, span(in, s, from))
			}
			for _, from := range []int{math.MinInt, -300, len(s) + 300, math.MaxInt} {
				checkSpan(t, class, s, from, from)
			}
		}
	}
}

func checkSpan(t *testing.T, class int, s string, from, want int) {
	t.Helper()
	if n := octet.Span(class, s, from); n != want {
		t.Errorf("Span(%d, %q, %d) = %d, not %d", class, s, from, n, want)
	}
	if octet.Span(class, []byte(s), from) != want || octet.Span(class, ownText(s), from) != want || octet.Span(class, ownBytes(s), from) != want {
		t.Errorf("Span(%d, %q, %d) of other kinds is not %d", class, s, from, want)
	}
}

func TestSpanOfNil(t *testing.T) { // P1.2, P1.3, R1, R6
	var none []byte
	if octet.Bad(octet.Ascii, none) != 0 || octet.Bad(99, none) != 0 || octet.Bad(octet.High, ownBytes(nil)) != 0 {
		t.Error("Bad of nil is not 0")
	}
	for _, from := range []int{math.MinInt, -1, 0, 1, math.MaxInt} {
		if octet.Span(octet.Ascii, none, from) != from {
			t.Errorf("Span of nil from %d", from)
		}
	}
}

func TestUpperOfEveryByte(t *testing.T) { // P1.4
	for c := range 256 {
		want := byte(c)
		if i := strings.IndexByte(letters[26:], want); i >= 0 {
			want = letters[i]
		}
		if s := octet.Upper(string([]byte{byte(c)})); s != string([]byte{want}) {
			t.Errorf("Upper of the byte %d is %q", c, s)
		}
	}
}

func TestUpperOfTexts(t *testing.T) { // P1.4, P1.11
	for _, a := range samples() {
		up := octet.Upper(a)
		if len(up) != len(a) {
			t.Errorf("Upper(%q) has %d bytes", a, len(up))
		}
		if octet.Upper(up) != up {
			t.Errorf("Upper twice of %q is another", a)
		}
		for _, b := range samples() {
			if octet.Upper(a+b) != up+octet.Upper(b) {
				t.Errorf("Upper of %q and %q side by side", a, b)
			}
		}
	}
}

func TestSameOfEveryTwoBytes(t *testing.T) { // P1.4
	for c := range 256 {
		for d := range 256 {
			a, b := string([]byte{'x', byte(c)}), string([]byte{'X', byte(d)})
			i, j := strings.IndexByte(letters, byte(c)), strings.IndexByte(letters, byte(d))
			want := c == d || i >= 0 && j >= 0 && i%26 == j%26
			if octet.Same(a, b) != want {
				t.Errorf("Same(%q, %q) is %v", a, b, !want)
			}
		}
	}
}

func TestSameOfTexts(t *testing.T) { // P1.4, P1.11
	for _, a := range samples() {
		if !octet.Same(a, a) || !octet.Same(a, octet.Upper(a)) {
			t.Errorf("%q is not the same as itself", a)
		}
		if octet.Same(a, a+"a") || octet.Same("\x00"+a, a) {
			t.Errorf("%q is the same as a longer one", a)
		}
		for _, b := range samples() {
			same := octet.Same(a, b)
			if same != octet.Same(b, a) || same != (octet.Upper(a) == octet.Upper(b)) {
				t.Errorf("Same of %q and %q", a, b)
			}
		}
	}
	// The long s, the sign of kelvin, é: to Unicode the same as s, k and É, but bytes above 127 stay as they are.
	if octet.Same("\u017f", "s") || octet.Same("\u212a", "k") || octet.Same("\u00e9", "\u00c9") || octet.Same("@", "`") {
		t.Error("Same of what are no letters here")
	}
}

func TestNumberThatIsNone(t *testing.T) { // P1.5, R4, R5
	nought20 := strings.Repeat("0", 20)
	for _, s := range []string{
		"", " ", "-", "+1", "-1", " 1", "1 ", "1.0", "1e3", "0x1", "1_0", "a", "12a", "a12", "/", ":", "1\x00", "\u0661", "\u00bd", "\xff", "1\n",
		nought20 + "0", nought20 + "1", strings.Repeat("9", 21), strings.Repeat("9", 1000), nought20[1:] + "x", "99999999999999999999x", "9999999999999999999x",
	} {
		for _, most := range []uint64{0, 9, most64} {
			if n, e := octet.Number(s, most); n != 0 || e != api.ErrDigits {
				t.Errorf("Number(%q, %d) = %d, %d", s, most, n, e)
			}
		}
	}
	for c := range 256 {
		s := "1" + string([]byte{byte(c)})
		_, e := octet.Number(s, most64)
		if want := strings.IndexByte(digits, byte(c)) >= 0; want != (e == api.OK) {
			t.Errorf("Number(%q) is answered with %d", s, e)
		}
	}
}

// checkNumber holds Number against a number of any size.
func checkNumber(t *testing.T, s string, most uint64) {
	t.Helper()
	exact, _ := new(big.Int).SetString(s, 10)
	var want uint64
	wrong := api.ErrRange
	if exact.Cmp(new(big.Int).SetUint64(most)) <= 0 {
		want, wrong = exact.Uint64(), api.OK
	}
	if n, e := octet.Number(s, most); n != want || e != wrong {
		t.Errorf("Number(%q, %d) = %d, %d, not %d, %d", s, most, n, e, want, wrong)
	}
}

// bounds are numbers at which something turns over.
func bounds() []uint64 {
	l := []uint64{0, 1, 2, 8, 9, 10, 11, 18, 19, 20, 99, 100, 101, 255, 256, 999, 1000, most64, most64 - 1, most64 / 10, most64/10 + 1, most64/10 - 1, most64 / 2, most64/2 + 1}
	for i := range 64 {
		l = append(l, 1<<i, 1<<i-1, 1<<i+1)
	}
	for p := uint64(1); p <= most64/10; p *= 10 {
		l = append(l, p*10, p*10-1, p*10+1)
	}
	return l
}

func TestNumberAtItsBound(t *testing.T) { // P1.5
	for _, most := range bounds() {
		b := new(big.Int).SetUint64(most)
		for _, d := range []int64{-1, 0, 1, 9, 10} {
			n := new(big.Int).Add(b, big.NewInt(d))
			if n.Sign() < 0 {
				continue
			}
			s := n.String()
			checkNumber(t, s, most)
			checkNumber(t, strings.Repeat("0", 20-len(s))+s, most)
		}
	}
}

func TestNumberOfManyDigits(t *testing.T) { // P1.5
	r := rand.New(rand.NewSource(2))
	l := bounds()
	for _, s := range []string{"0", "00000000000000000000", "18446744073709551615", "18446744073709551616", "18446744073709551619", "18446744073709551620", "18446744073709551625", "20000000000000000000", "36893488147419103232", "36893488147419103233", "99999999999999999999"} {
		for _, most := range l {
			checkNumber(t, s, most)
		}
	}
	for range 20000 {
		b := make([]byte, 1+r.Intn(20))
		for i := range b {
			b[i] = digits[r.Intn(10)]
		}
		checkNumber(t, string(b), l[r.Intn(len(l))])
		checkNumber(t, string(b), r.Uint64()>>r.Intn(64))
	}
}

func TestDecimal(t *testing.T) { // P1.6, P1.10
	l := bounds()
	r := rand.New(rand.NewSource(3))
	for range 2000 {
		l = append(l, r.Uint64()>>r.Intn(64))
	}
	for _, n := range l {
		s := octet.Decimal(n)
		if want := new(big.Int).SetUint64(n).String(); s != want {
			t.Errorf("Decimal(%d) = %q", n, s)
		}
		if len(s) > 1 && s[0] == '0' {
			t.Errorf("Decimal(%d) = %q has a nought ahead", n, s)
		}
		for _, most := range []uint64{n, most64} {
			if m, e := octet.Number(s, most); m != n || e != api.OK {
				t.Errorf("Number(Decimal(%d), %d) = %d, %d", n, most, m, e)
			}
		}
	}
}

func TestHexOfEveryByte(t *testing.T) { // P1.7
	all := make([]byte, 256)
	var want strings.Builder
	for c := range all {
		all[c] = byte(c)
		two := strings.ToUpper(strconv.FormatInt(int64(c), 16))
		if len(two) == 1 {
			two = "0" + two
		}
		want.WriteString(two)
		if s := octet.HexOf(all[c : c+1]); s != two {
			t.Errorf("HexOf of the byte %d is %q", c, s)
		}
	}
	if s := octet.HexOf(all); s != want.String() {
		t.Errorf("HexOf of all bytes is %q", s)
	}
	if octet.HexOf(nil) != "" || octet.HexOf([]byte{}) != "" {
		t.Error("HexOf of no bytes is something")
	}
}

func TestUnhexOfEveryTwoDigits(t *testing.T) { // P1.8
	const low, high = "0123456789abcdef", "0123456789ABCDEF"
	for c := range 256 {
		for _, h := range []string{low, high} {
			for _, l := range []string{low, high} {
				s := h[c>>4:c>>4+1] + l[c&15:c&15+1]
				if b, spot := octet.Unhex(s); !bytes.Equal(b, []byte{byte(c)}) || spot != (api.Spot{}) {
					t.Errorf("Unhex(%q) = %v, %v", s, b, spot)
				}
			}
		}
	}
	if b, spot := octet.Unhex(""); len(b) != 0 || spot != (api.Spot{}) {
		t.Errorf("Unhex of nothing = %v, %v", b, spot)
	}
}

func TestUnhexOfWrongTexts(t *testing.T) { // P1.8, R4, R5
	for n := range 12 {
		good := "0123456789aF"[:n]
		want := api.Spot{}
		if n%2 == 1 {
			want = api.Spot{Err: api.ErrDigits, At: n}
		}
		checkUnhex(t, good, want)
		for at := range n {
			for c := range 256 {
				if strings.IndexByte(digits+"ABCDEFabcdef", byte(c)) >= 0 {
					continue
				}
				s := good[:at] + string([]byte{byte(c)}) + good[at+1:]
				checkUnhex(t, s, api.Spot{Err: api.ErrDigits, At: at})
				checkUnhex(t, s+"g", api.Spot{Err: api.ErrDigits, At: at})
			}
		}
	}
}

func checkUnhex(t *testing.T, s string, want api.Spot) {
	t.Helper()
	b, spot := octet.Unhex(s)
	if spot != want {
		t.Errorf("Unhex(%q) answers %v, not %v", s, spot, want)
	}
	if spot.Err != api.OK && len(b) != 0 {
		t.Errorf("Unhex(%q) answers bytes beside an error", s)
	}
}

func TestHexThereAndBack(t *testing.T) { // P1.10
	for _, s := range samples() {
		b, spot := octet.Unhex(octet.HexOf([]byte(s)))
		if string(b) != s || spot != (api.Spot{}) {
			t.Errorf("Unhex of HexOf(%q) = %q, %v", s, b, spot)
		}
	}
	r := rand.New(rand.NewSource(4))
	for range 500 {
		l := make([]byte, 2*r.Intn(40))
		for i := range l {
			l[i] = "0123456789abcdefABCDEF"[r.Intn(22)]
		}
		s := string(l)
		b, spot := octet.Unhex(s)
		if len(b) != len(s)/2 || spot != (api.Spot{}) || octet.HexOf(b) != octet.Upper(s) {
			t.Errorf("HexOf of Unhex(%q): %q, %v", s, b, spot)
		}
	}
}

func TestWhatIsHandedInStays(t *testing.T) { // R3
	room := []byte("0aZ\xff12behind")
	before := string(room)
	b := room[:6]
	octet.HexOf(b)
	for class := -1; class <= 15; class++ {
		octet.Bad(class, b)
		octet.Span(class, b, 1)
		octet.Span(class, ownBytes(b), 20)
	}
	if string(room) != before {
		t.Errorf("what was handed in is %q now", room)
	}
}

func TestWhatIsHandedOutIsNew(t *testing.T) { // R3
	const s = "00ff1A"
	b, _ := octet.Unhex(s)
	again, _ := octet.Unhex(s)
	for i := range b[:cap(b)] {
		b[:cap(b)][i] = 'x'
	}
	third, _ := octet.Unhex(s)
	if s != "00ff1A" || string(again) != "\x00\xff\x1a" || string(third) != "\x00\xff\x1a" {
		t.Errorf("an answer shows what was written into another: %q, %q", again, third)
	}
	in := []byte{0, 255, 26}
	text := octet.HexOf(in)
	in[0], in[1] = 1, 2
	if text != "00FF1A" {
		t.Errorf("HexOf's answer hangs on its argument: %q", text)
	}
}

func TestAnswersDoNotHangOnOtherCalls(t *testing.T) { // R2
	first := octet.Upper("abc") + octet.HexOf([]byte("abc")) + octet.Decimal(77)
	octet.Number("x", 1)
	octet.Unhex("zz")
	octet.Is(-5, 1)
	if octet.Upper("abc")+octet.HexOf([]byte("abc"))+octet.Decimal(77) != first {
		t.Error("the same call answers otherwise")
	}
}
