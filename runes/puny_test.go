package runes_test

import (
	"math"
	"math/big"
	"math/rand"
	"slices"
	"strings"
	"testing"

	"posthorn/api"
	"posthorn/runes"
)

// The words of the chapter, told once more, plainly and without a bound: numbers are big ones, and a list is
// put together rune by rune.

const signs = "abcdefghijklmnopqrstuvwxyz0123456789"

const most31 = 1<<31 - 1

// boundAt is the bound t of the digit at a place.
func boundAt(place int, bias int64) int64 {
	t := int64(36*(place+1)) - bias
	if t < 1 {
		return 1
	}
	if t > 26 {
		return 26
	}
	return t
}

// digitsOf are the digits of a number.
func digitsOf(q, bias int64) string {
	text := ""
	for place := 0; ; place++ {
		t := boundAt(place, bias)
		if q < t {
			return text + signs[q:q+1]
		}
		d := t + (q-t)%(36-t)
		text += signs[d : d+1]
		q = (q - t) / (36 - t)
	}
}

// biasAfter is the bias behind a step.
func biasAfter(s, h int64, first bool) int64 {
	d := s / 2
	if first {
		d = s / 700
	}
	d = d + d/h
	k := int64(0)
	for d > 455 {
		d = d / 35
		k = k + 36
	}
	return k + 36*d/(d+38)
}

// punyOf is the Punycode of a list, by the words.
func punyOf(l []rune) (string, api.Errno) {
	for _, r := range l {
		if !rune32(int(r)) {
			return "", api.ErrUtf
		}
	}
	in := make([]bool, len(l)) // which of them are in the list
	text, h := "", int64(0)
	for at, r := range l {
		if r < 128 {
			text += string(r)
			in[at] = true
			h++
		}
	}
	if h > 0 {
		text += "-"
	}
	n, i, bias, first := int64(128), int64(0), int64(72), true
	for {
		next := -1
		for at, r := range l {
			if !in[at] && (next < 0 || r < l[next]) {
				next = at
			}
		}
		if next < 0 {
			return text, api.OK
		}
		r, p := int64(l[next]), int64(0)
		for at := range next {
			if in[at] {
				p++
			}
		}
		step := (r-n)*(h+1) + p - i
		if step > most31 {
			return "", api.ErrOver
		}
		text += digitsOf(step, bias)
		n, i = r, p+1
		in[next] = true
		h++
		bias = biasAfter(step, h, first)
		first = false
	}
}

// runesOf reads Punycode, by the words.
func runesOf(s string) ([]rune, api.Spot) {
	var l []rune
	from := 0
	if last := strings.LastIndex(s, "-"); last > 0 {
		for at := range last {
			if s[at] > 127 {
				return nil, api.Spot{Err: api.ErrPuny, At: at}
			}
			l = append(l, rune(s[at]))
		}
		from = last + 1
	}
	n, i, bias, first := int64(128), int64(0), int64(72), true
	for from < len(s) {
		step, end, e := stepAt(s, from, bias)
		if e.Err != api.OK {
			return nil, e
		}
		h := int64(len(l))
		n += (i + step) / (h + 1)
		p := (i + step) % (h + 1)
		if !rune32(int(n)) {
			return nil, api.Spot{Err: api.ErrUtf, At: end}
		}
		l = slices.Insert(l, int(p), rune(n))
		i = p + 1
		bias = biasAfter(step, h+1, first)
		first = false
		from = end + 1
	}
	return l, api.Spot{}
}

// stepAt reads a step, and tells the place of its last digit.
func stepAt(s string, from int, bias int64) (int64, int, api.Spot) {
	step, weight := new(big.Int), big.NewInt(1)
	for at := from; at < len(s); at++ {
		v := int64(strings.Index(signs, strings.ToLower(s[at:at+1])))
		if s[at] > 127 || v < 0 {
			return 0, 0, api.Spot{Err: api.ErrPuny, At: at}
		}
		step.Add(step, new(big.Int).Mul(weight, big.NewInt(v)))
		if step.Cmp(big.NewInt(most31)) > 0 {
			return 0, 0, api.Spot{Err: api.ErrOver, At: at}
		}
		t := boundAt(at-from, bias)
		if v < t {
			return step.Int64(), at, api.Spot{}
		}
		weight.Mul(weight, big.NewInt(36-t))
	}
	return 0, 0, api.Spot{Err: api.ErrPuny, At: len(s)}
}

// small is a Punycode with the letters small that stand behind the last - (that stands behind the first byte).
func small(s string) string {
	from := 0
	if last := strings.LastIndex(s, "-"); last > 0 {
		from = last + 1
	}
	return s[:from] + strings.ToLower(s[from:])
}

// checkPuny holds Puny against the words (P5.5), and Unpuny against it (P5.8).
func checkPuny(t *testing.T, l []rune) {
	t.Helper()
	want, wantErr := punyOf(l)
	s, e := runes.Puny(l)
	if s != want || e != wantErr {
		t.Errorf("Puny(%x): %q, %d, want %q, %d", l, s, e, want, wantErr)
		return
	}
	if e != api.OK {
		return
	}
	if back, e := runes.Unpuny(s); !slices.Equal(back, l) || e != (api.Spot{}) {
		t.Errorf("Unpuny of Puny(%x), %q: %x, %v", l, s, back, e)
	}
}

// checkUnpuny holds Unpuny against the words (P5.6), and Puny against it (P5.8).
func checkUnpuny(t *testing.T, s string) {
	t.Helper()
	want, wantSpot := runesOf(s)
	l, e := runes.Unpuny(s)
	if !slices.Equal(l, want) || e != wantSpot {
		t.Errorf("Unpuny(%q): %x, %v, want %x, %v", s, l, e, want, wantSpot)
		return
	}
	if e.Err != api.OK {
		return
	}
	if back, e := runes.Puny(l); back != small(s) || e != api.OK {
		t.Errorf("Puny of Unpuny(%q), %x: %q, %d", s, l, back, e)
	}
}

// P5.5, P5.6: the samples of RFC 3492.
func TestPunySamples(t *testing.T) {
	for _, c := range []struct{ text, want string }{
		{"\u0644\u064a\u0647\u0645\u0627\u0628\u062a\u0643\u0644\u0645\u0648\u0634\u0639\u0631\u0628\u064a\u061f", "egbpdaj6bu4bxfgehfvwxn"},
		{"\u4ed6\u4eec\u4e3a\u4ec0\u4e48\u4e0d\u8bf4\u4e2d\u6587", "ihqwcrb4cv8a8dqg056pqjye"},
		{"\u4ed6\u5011\u7232\u4ec0\u9ebd\u4e0d\u8aaa\u4e2d\u6587", "ihqwctvzc91f659drss3x8bo0yb"},
		{"Pro\u010dprost\u011bnemluv\u00ed\u010desky", "Proprostnemluvesky-uyb24dma41a"},
		{"3\u5e74B\u7d44\u91d1\u516b\u5148\u751f", "3B-ww4c5e180e575a65lsy2b"},
		{"Maji\u3067Koi\u3059\u308b5\u79d2\u524d", "MajiKoi5-783gue6qz075azm5e"},
		{"-> $1.00 <-", "-> $1.00 <--"},
	} {
		if s, e := runes.Puny([]rune(c.text)); s != c.want || e != api.OK {
			t.Errorf("Puny(%q): %q, %d, want %q", c.text, s, e, c.want)
		}
		if l, e := runes.Unpuny(c.want); string(l) != c.text || e != (api.Spot{}) {
			t.Errorf("Unpuny(%q): %q, %v", c.want, string(l), e)
		}
	}
}

// P5.5, P5.8: all short lists of few runes, the same one several times among them.
func TestPunyShort(t *testing.T) {
	letters := []rune{0, '-', 'a', 127, 128, 129, 0xE9, 0x20AC, 0x10FFFF}
	var grow func(l []rune)
	grow = func(l []rune) {
		checkPuny(t, l)
		if len(l) == 4 {
			return
		}
		for _, r := range letters {
			grow(append(slices.Clone(l), r))
		}
	}
	grow(nil)
}

// P5.5: every rune by itself, and numbers that are none, first or last, with runes that are some.
func TestPunyEdges(t *testing.T) {
	for _, r := range edgeRunes {
		checkPuny(t, []rune{r})
		checkPuny(t, []rune{r, 'a', 0xE9})
		checkPuny(t, []rune{'a', 0xE9, r})
		checkPuny(t, []rune{0xE9, r, 'a', r})
	}
	for n := 0; n <= 0x10FFFF; n += 7 {
		checkPuny(t, []rune{rune(n)})
	}
}

// P5.5: a list with a step that is too great, and a number that is no rune: the latter is told (R5).
func TestPunyUtfFirst(t *testing.T) {
	l := append(slices.Repeat([]rune{'a'}, 2100), 0x10FFFF)
	if s, e := runes.Puny(l); s != "" || e != api.ErrOver {
		t.Errorf("a great step: %q, %d", s, e)
	}
	for _, r := range []rune{-1, 0xD800, 0xDFFF, 0x110000, math.MinInt32, math.MaxInt32} {
		if s, e := runes.Puny(append(slices.Clone(l), r)); s != "" || e != api.ErrUtf {
			t.Errorf("a great step, and behind it %x: %q, %d", r, s, e)
		}
		if s, e := runes.Puny(append([]rune{r}, l...)); s != "" || e != api.ErrUtf {
			t.Errorf("a great step, and ahead of it %x: %q, %d", r, s, e)
		}
	}
}

// P5.5, P5.6: the first step, and a later one, around 2^31 - 1.
func TestPunyStepEdge(t *testing.T) {
	for _, h := range []int{1927, 1929, 2047, 3000, 65535} {
		// The step of r at the place p is (r - 128) * (h + 1) + p.
		r, p := most31/(h+1)+128, most31%(h+1)
		if !rune32(r) {
			t.Fatalf("%x is no rune", r)
		}
		for _, more := range []int{-1, 0, 1} {
			at, put := p+more, rune(r)
			if at < 0 || at > h {
				at, put = 0, put+1
			}
			l := slices.Insert(slices.Repeat([]rune{'a'}, h), at, put)
			want := api.OK
			if int64(put-128)*int64(h+1)+int64(at) > most31 {
				want = api.ErrOver
			}
			s, e := runes.Puny(l)
			if e != want {
				t.Errorf("%d runes, %x at %d: %d, want %d", h, put, at, e, want)
			}
			if e != api.OK {
				continue
			}
			if back, spot := runes.Unpuny(s); !slices.Equal(back, l) || spot != (api.Spot{}) {
				t.Errorf("%d runes, %x at %d, and back: %v", h, put, at, spot)
			}
		}
	}
	late := append(slices.Repeat([]rune{0x80}, 3000), 0x10FFFF)
	checkPuny(t, late)
	checkPuny(t, append(late[:1900:1900], 0x10FFFF))
	checkPuny(t, append([]rune{0x10FFFF}, late[:1900]...))
}

// P5.6: steps around 2^31 - 1 as digits: above it ErrOver at the digit, up to it a rune or none.
func TestUnpunyStepEdge(t *testing.T) {
	for step := int64(most31 - 100); step <= most31+100; step++ {
		s := digitsOf(step, 72)
		for _, ahead := range []string{"", "-", "abc", strings.Repeat("a", 1925), strings.Repeat("a", 1926),
			strings.Repeat("a", 1927), strings.Repeat("b", 4000)} {
			text := s
			if ahead != "" {
				text = ahead + "-" + s
			}
			checkUnpuny(t, text)
			checkUnpuny(t, text+"a")
			checkUnpuny(t, text+"!")
			checkUnpuny(t, text[:len(text)-1])
			checkUnpuny(t, text[:len(text)-1]+"!")
		}
	}
	if _, e := runes.Unpuny(digitsOf(most31, 72)); e.Err != api.ErrUtf || e.At != len(digitsOf(most31, 72))-1 {
		t.Errorf("2^31 - 1: %v", e)
	}
	if _, e := runes.Unpuny(digitsOf(most31+1, 72)); e.Err != api.ErrOver {
		t.Errorf("2^31: %v", e)
	}
}

// P5.6: steps whose rune is at the edge of being none, first and later.
func TestUnpunyRuneEdge(t *testing.T) {
	for _, r := range []int64{0x80, 0x81, 0xD7FF, 0xD800, 0xD801, 0xDBFF, 0xDC00, 0xDFFF, 0xE000, 0xFFFF, 0x10000,
		0x10FFFF, 0x110000, 0x110001, 0x200000} {
		for h := range int64(4) {
			for p := range h + 1 {
				s := digitsOf((r-128)*(h+1)+p, 72)
				if h > 0 {
					s = "xyz"[:h] + "-" + s
				}
				_, e := runes.Unpuny(s)
				want := api.Spot{}
				if !rune32(int(r)) {
					want = api.Spot{Err: api.ErrUtf, At: len(s) - 1}
				}
				if e != want {
					t.Errorf("%x at %d of %d, %q: %v", r, p, h, s, e)
				}
				checkUnpuny(t, s)
				checkUnpuny(t, s+"!")
				checkUnpuny(t, s+"a")
				checkUnpuny(t, s+"9")
				checkUnpuny(t, s+"zzz")
			}
		}
	}
}

// P5.6, P5.8: all short texts of few bytes, with - first, last, several times and not at all.
func TestUnpunyShort(t *testing.T) {
	eachOf([]byte{'a', 'b', 'k', 'z', 'Z', '0', '9', '-', '!', 0xC3}, 5, func(s string) { checkUnpuny(t, s) })
	eachOf([]byte{'a', 't', '9', '-'}, 8, func(s string) { checkUnpuny(t, s) })
}

// P5.6: every byte, ahead of the last - and behind it, and within a step.
func TestUnpunyEveryByte(t *testing.T) {
	for b := range 256 {
		c := string([]byte{byte(b)})
		for _, s := range []string{c, c + "-", "-" + c, "a" + c + "-", c + "a-kva", "bch" + c + "er-kva", "bcher-" + c + "kva",
			"bcher-k" + c, "bcher-k" + c + "a", "bcher-kv" + c, "bcher-kva" + c, "bc-er" + c, "bc-\xFF-kv" + c, c + "\xFF" + c + "-" + c,
			"a-\xFFb" + c, "9" + c + "\x80"} {
			checkUnpuny(t, s)
		}
	}
}

// P5.6, P5.8: capitals and small letters are the same digits, and stay what they are ahead of the last -.
func TestUnpunyCapitals(t *testing.T) {
	for _, c := range []struct{ s, back string }{
		{"Bcher-KVA", "Bcher-kva"}, {"bCHER-kVa", "bCHER-kva"}, {"TDA", "tda"}, {"WGV71A119E", "wgv71a119e"}, {"A-B-KVA", "A-B-kva"},
	} {
		l, e := runes.Unpuny(c.s)
		if e != (api.Spot{}) {
			t.Errorf("Unpuny(%q): %v", c.s, e)
			continue
		}
		if s, _ := runes.Puny(l); s != c.back {
			t.Errorf("Unpuny(%q) and back: %q", c.s, s)
		}
		checkUnpuny(t, c.s)
		checkUnpuny(t, strings.ToLower(c.s))
		checkUnpuny(t, strings.ToUpper(c.s))
	}
}

// P5.5 to P5.8: lists and texts by chance, up to some dozens long.
func TestPunyByChance(t *testing.T) {
	random := rand.New(rand.NewSource(55))
	kinds := []func() rune{
		func() rune { return rune(random.Intn(128)) },
		func() rune { return rune(128 + random.Intn(3)) },
		func() rune { return rune(0x4E00 + random.Intn(0x5000)) },
		func() rune { return rune(random.Intn(0xD800)) },
		func() rune { return rune(0xE000 + random.Intn(0x110000-0xE000)) },
	}
	for range 6000 {
		l := make([]rune, random.Intn(40))
		few := 1 + random.Intn(len(kinds))
		for i := range l {
			l[i] = kinds[random.Intn(few)]()
		}
		checkPuny(t, l)
		s, _ := runes.Puny(l)
		b := []byte(s)
		for range 1 + random.Intn(3) {
			if len(b) > 0 {
				b[random.Intn(len(b))] = "-aAzZ09!\xC3\x00kv"[random.Intn(12)]
			}
		}
		checkUnpuny(t, string(b))
		for i := range b {
			b[i] = signs[random.Intn(len(signs))]
		}
		checkUnpuny(t, string(b))
	}
}

// P5.8, R1: long lists, there and back, end soon: sorted both ways, of one rune, and mixed.
func TestPunyLong(t *testing.T) {
	const n = 200000
	up, one, mixed := make([]rune, n), make([]rune, n), make([]rune, n)
	random := rand.New(rand.NewSource(555))
	for i := range n {
		up[i] = rune(0x10000 + i)
		one[i] = 0x80
		mixed[i] = rune(random.Intn(0x400))
	}
	down := slices.Clone(up)
	slices.Reverse(down)
	for i, l := range [][]rune{up, one, mixed, down} {
		s, e := runes.Puny(l)
		if e != api.OK {
			t.Errorf("list %d: %d", i, e)
			continue
		}
		if back, spot := runes.Unpuny(s); !slices.Equal(back, l) || spot != (api.Spot{}) {
			t.Errorf("list %d, and back: %v", i, spot)
		}
	}
}

// R3: what is handed in stays as it is and is not kept; what is handed out is new memory, spare room too.
func TestPunyMemory(t *testing.T) {
	store := []rune{'b', 0xFC, 'c', 'h', 'e', 'r', 1, 2, 3}
	was := slices.Clone(store)
	s, e := runes.Puny(store[:6])
	if s != "bcher-kva" || e != api.OK || !slices.Equal(store, was) {
		t.Errorf("Puny: %q, %d; the list is %x", s, e, store)
	}
	clear(store)
	if s != "bcher-kva" {
		t.Errorf("the text follows the list: %q", s)
	}
	for _, text := range []string{"", "bcher-kva", "abc-", "wgv71a119e"} {
		first, _ := runes.Unpuny(text)
		want := slices.Clone(first)
		first = first[:cap(first)]
		for i := range first {
			first[i] = 'x'
		}
		if second, e := runes.Unpuny(text); !slices.Equal(second, want) || e != (api.Spot{}) {
			t.Errorf("Unpuny(%q) behind writing to its answer: %x, %v", text, second, e)
		}
	}
}
