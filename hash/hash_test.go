package hash_test

import (
	"bytes"
	"crypto/hmac"
	"crypto/md5"
	"encoding/hex"
	"math"
	"math/rand"
	"slices"
	"testing"

	"posthorn/api"
	"posthorn/hash"
)

// many is a row of n bytes that are all c.
func many(c byte, n int) []byte { return bytes.Repeat([]byte{c}, n) }

// random is a row of n bytes of all sorts, from a source that begins the same way each time.
func random(r *rand.Rand, n int) []byte {
	b := make([]byte, n)
	for i := range b {
		b[i] = byte(r.Intn(256))
	}
	return b
}

// rows are rows of all sorts, the same ones each time; up to 330 bytes each length is among them.
func rows() [][]byte {
	l := [][]byte{nil, {}, many(0, 1), many(0x80, 1), many(255, 1), many(0, 55), many(0, 56), many(0, 64), many(0x80, 64), many(255, 200)}
	r := rand.New(rand.NewSource(3))
	for n := range 331 {
		l = append(l, random(r, n))
	}
	for _, n := range []int{511, 512, 513, 567, 568, 1000, 4095, 4096, 4151, 4152, 65537} {
		l = append(l, random(r, n))
	}
	return l
}

// keys are keys of all sorts: none, shorter ones than a row, such as fill one, and longer ones.
func keys() [][]byte {
	l := [][]byte{nil, {}, []byte("k"), many(0, 1), many(0x36, 64), many(0x5c, 64), many(0, 64), many(0, 65)}
	r := rand.New(rand.NewSource(4))
	for n := range 140 {
		l = append(l, random(r, n))
	}
	return append(l, random(r, 1000), random(r, 4096))
}

// turns are by how much step i turns, as the chapter tells it.
func turns(i int) int {
	return [][]int{{7, 12, 17, 22}, {5, 9, 14, 20}, {4, 11, 16, 23}, {6, 10, 15, 21}}[i/16][i%4]
}

// filled is what the chapter's rows are made of: the bytes, and what stands behind them.
func filled(b []byte) []byte {
	l := append(slices.Clone(b), 0x80)
	for len(l)%64 != 56 {
		l = append(l, 0)
	}
	for count, i := 8*uint64(len(b)), 0; i < 8; i++ {
		l = append(l, byte(count%256))
		count /= 256
	}
	return l
}

// digest is the chapter's digest, word by word as it tells it; the table comes out of the sines.
func digest(b []byte) [16]byte {
	register := [4]uint32{0x67452301, 0xefcdab89, 0x98badcfe, 0x10325476}
	all := filled(b)
	for at := 0; at < len(all); at += 64 {
		a, b, c, d := register[0], register[1], register[2], register[3]
		for i := range 64 {
			var f uint32
			var g int
			switch {
			case i < 16:
				f, g = (b&c)|(^b&d), i
			case i < 32:
				f, g = (d&b)|(^d&c), (5*i+1)%16
			case i < 48:
				f, g = b^c^d, (3*i+5)%16
			default:
				f, g = c^(b|^d), (7*i)%16
			}
			k := uint32(math.Floor(4294967296 * math.Abs(math.Sin(float64(i+1)))))
			var m uint32
			for j := 3; j >= 0; j-- {
				m = m*256 + uint32(all[at+4*g+j])
			}
			x := a + f + k + m
			a, b, c, d = d, b+(x<<turns(i)|x>>(32-turns(i))), b, c
		}
		register = [4]uint32{register[0] + a, register[1] + b, register[2] + c, register[3] + d}
	}
	var out [16]byte
	for i := range out {
		out[i] = byte(register[i/4] >> (8 * (i % 4)))
	}
	return out
}

// laid is the chapter's row of a key with each byte xor c.
func laid(key []byte, c byte) []byte {
	if len(key) > 64 {
		d := md5.Sum(key)
		key = d[:]
	}
	l := make([]byte, 64)
	copy(l, key)
	for i := range l {
		l[i] ^= c
	}
	return l
}

// mac is the same keyed digest as others work it out.
func mac(key, b []byte) [16]byte {
	m := hmac.New(md5.New, key)
	m.Write(b)
	return [16]byte(m.Sum(nil))
}

// P3.1
func TestMd5(t *testing.T) {
	for _, b := range rows() {
		got := hash.Md5(b)
		if want := digest(b); got != want || got != md5.Sum(b) {
			t.Errorf("Md5 of %d bytes: %x, want %x", len(b), got, want)
		}
	}
	for c := range 256 {
		b := []byte{byte(c)}
		if got, want := hash.Md5(b), digest(b); got != want {
			t.Errorf("Md5 of the byte %d: %x, want %x", c, got, want)
		}
	}
	if hash.Md5(nil) != hash.Md5([]byte{}) {
		t.Error("Md5 of nil is not that of no bytes")
	}
}

// P3.1: a row of bytes is not the one with a byte 0, or the byte that stands behind it, more.
func TestMd5EndIsSeen(t *testing.T) {
	for n := range 200 {
		for _, c := range []byte{0, 0x80} {
			b := many('a', n)
			if hash.Md5(b) == hash.Md5(append(b, c)) {
				t.Errorf("%d bytes, and a byte %x behind them: one digest", n, c)
			}
		}
	}
}

// P3.1
func TestMd5LongRow(t *testing.T) {
	r := rand.New(rand.NewSource(5))
	for _, n := range []int{1<<20 + 55, 1<<20 + 56, 1<<22 + 3} {
		b := random(r, n)
		if got, want := hash.Md5(b), md5.Sum(b); got != want {
			t.Errorf("%d bytes: %x, want %x", n, got, want)
		}
	}
}

// P3.1, P3.3: so many bytes that the number of their bits has more than 32 of them.
func TestManyBytes(t *testing.T) {
	b := random(rand.New(rand.NewSource(6)), 1<<22)
	h, other := hash.New(), md5.New()
	for range 1 << 7 {
		h.Write(b)
		other.Write(b)
	}
	for _, tail := range []string{"", "abcde"} {
		h.Write([]byte(tail))
		other.Write([]byte(tail))
		if got, want := h.Sum(), [16]byte(other.Sum(nil)); got != want {
			t.Errorf("%d bytes: %x, want %x", h.Len(), got, want)
		}
	}
	if h.Len() != 1<<29+5 {
		t.Errorf("Len: %d", h.Len())
	}
}

// P3.1
func TestMac(t *testing.T) {
	short := rows()[:140]
	for _, k := range keys() {
		for i, b := range short {
			if i > 12 && i%9 != 0 {
				continue
			}
			if got, want := hash.Mac(k, b), mac(k, b); got != want {
				t.Fatalf("Mac with a key of %d bytes, of %d bytes: %x, want %x", len(k), len(b), got, want)
			}
		}
	}
	for _, b := range rows() {
		if got, want := hash.Mac([]byte("key"), b), mac([]byte("key"), b); got != want {
			t.Errorf("Mac of %d bytes: %x, want %x", len(b), got, want)
		}
	}
}

// P3.1: with no key and of no bytes it is none of the plain digests.
func TestMacOfNothing(t *testing.T) {
	const want = "74e6f7298a9c2d168935f58c001bad88"
	for _, k := range [][]byte{nil, {}} {
		for _, b := range [][]byte{nil, {}} {
			if got := hash.Tell(hash.Mac(k, b)); got != want {
				t.Errorf("%s, want %s", got, want)
			}
		}
	}
}

// P3.1: keys that are another row are told from one another, in their last byte too.
func TestMacKeysDiffer(t *testing.T) {
	for _, n := range []int{1, 16, 63, 64, 65, 128} {
		for at := range n {
			k := many('k', n)
			was := hash.Mac(k, []byte("text"))
			k[at] = 'l'
			if hash.Mac(k, []byte("text")) == was {
				t.Errorf("a key of %d bytes, another byte at %d: one digest", n, at)
			}
		}
	}
}

// P3.2
func TestTell(t *testing.T) {
	r := rand.New(rand.NewSource(7))
	for range 500 {
		d := [16]byte(random(r, 16))
		if got, want := hash.Tell(d), hex.EncodeToString(d[:]); got != want {
			t.Fatalf("Tell(%v): %s, want %s", d, got, want)
		}
	}
	const digits = "0123456789abcdef"
	for c := range 256 {
		two := string(digits[c/16]) + string(digits[c%16])
		for at := range 16 {
			var d [16]byte
			d[at] = byte(c)
			want := "00000000000000000000000000000000"
			want = want[:2*at] + two + want[2*at+2:]
			if got := hash.Tell(d); got != want {
				t.Fatalf("the byte %d at %d: %s, want %s", c, at, got, want)
			}
		}
	}
}

// taker is a hash, and the bytes that it must have taken.
type taker struct {
	h *hash.Hash
	b []byte
}

// hold holds hashes against their bytes; twice, for asking changes nothing.
func hold(t *testing.T, l []taker) {
	t.Helper()
	for range 2 {
		for i, x := range l {
			if x.h.Sum() != md5.Sum(x.b) || x.h.Len() != int64(len(x.b)) {
				t.Fatalf("hash %d: digest %x, length %d; want %x, %d", i, x.h.Sum(), x.h.Len(), md5.Sum(x.b), len(x.b))
			}
		}
	}
}

// P3.3, R2: hashes side by side, written to, asked and copied in any order.
func TestHashes(t *testing.T) {
	r := rand.New(rand.NewSource(8))
	for range 60 {
		l := []taker{{hash.New(), nil}, {hash.New(), nil}}
		for range 60 {
			k := r.Intn(len(l))
			switch act := r.Intn(12); {
			case act == 0:
				l = append(l, taker{l[k].h.Copy(), slices.Clone(l[k].b)})
			case act == 1:
				l = append(l, taker{hash.New(), nil})
			default:
				b := random(r, r.Intn(150))
				if e := l[k].h.Write(b); e != api.OK {
					t.Fatalf("Write: %d", e)
				}
				l[k].b = append(l[k].b, b...)
				clear(b)
			}
			if r.Intn(3) == 0 {
				hold(t, l)
			}
		}
		hold(t, l)
	}
}

// P3.3
func TestNewHash(t *testing.T) {
	h, other := hash.New(), hash.New()
	if h == nil || other == nil || h == other {
		t.Fatal("New makes none of its own")
	}
	hold(t, []taker{{h, nil}})
	for _, b := range [][]byte{nil, {}} {
		if e := h.Write(b); e != api.OK {
			t.Errorf("no bytes written: %d", e)
		}
		hold(t, []taker{{h, nil}})
	}
	if e := h.Write(many(0, 1)); e != api.OK {
		t.Errorf("a byte 0 written: %d", e)
	}
	hold(t, []taker{{h, many(0, 1)}, {other, nil}})
}

// P3.3: neither of a hash and its copy is seen in the other, whichever is written to, at whichever place of a row.
func TestCopy(t *testing.T) {
	for _, n := range []int{0, 1, 5, 55, 56, 63, 64, 65, 127, 128, 200} {
		begun := many('a', n)
		h := hash.New()
		h.Write(begun)
		c := h.Copy()
		if c == nil || c == h {
			t.Fatal("Copy makes none of its own")
		}
		hold(t, []taker{{h, begun}, {c, begun}})
		c.Write([]byte("xyz"))
		hold(t, []taker{{h, begun}, {c, append(many('a', n), "xyz"...)}})
		h.Write([]byte("6"))
		hold(t, []taker{{h, append(many('a', n), '6')}, {c, append(many('a', n), "xyz"...)}})
		d := c.Copy()
		c.Write(many('c', 70))
		d.Write(many('d', 64))
		hold(t, []taker{
			{h, append(many('a', n), '6')},
			{c, append(append(many('a', n), "xyz"...), many('c', 70)...)},
			{d, append(append(many('a', n), "xyz"...), many('d', 64)...)},
		})
	}
}

// P3.3, R1: of a hash that is nil, or that neither New nor Copy made, nothing is told, and nothing comes of it.
func TestNoHash(t *testing.T) {
	var zero hash.Hash
	for i, h := range []*hash.Hash{nil, &zero, new(hash.Hash), {}} {
		for range 2 {
			for _, b := range [][]byte{[]byte("1"), many('a', 64), many('a', 200), {}, nil} {
				if e := h.Write(b); e != api.ErrNil {
					t.Errorf("%d: Write of %d bytes: %d", i, len(b), e)
				}
			}
			if h.Sum() != [16]byte{} || h.Len() != 0 || h.Copy() != nil {
				t.Errorf("%d: Sum %x, Len %d, Copy %v", i, h.Sum(), h.Len(), h.Copy())
			}
		}
	}
	if zero != (hash.Hash{}) {
		t.Error("a hash that is none was changed")
	}
}

// P3.4, P12: each row is cut at each place, and asked between.
func TestCutInTwo(t *testing.T) {
	for _, b := range rows()[:220] {
		want := hash.Md5(b)
		for at := range len(b) + 1 {
			h := hash.New()
			h.Write(b[:at])
			if at%3 == 0 {
				hold(t, []taker{{h, b[:at]}})
			}
			h.Write(b[at:])
			if got := h.Sum(); got != want || h.Len() != int64(len(b)) {
				t.Fatalf("%d bytes cut at %d: %x, want %x", len(b), at, got, want)
			}
		}
	}
}

// P3.4, P12: byte by byte, asked behind each of them.
func TestByteByByte(t *testing.T) {
	b := random(rand.New(rand.NewSource(9)), 400)
	h := hash.New()
	for i := range b {
		if e := h.Write(b[i : i+1]); e != api.OK {
			t.Fatalf("Write: %d", e)
		}
		hold(t, []taker{{h, b[:i+1]}})
	}
}

// P3.4, P12: rows are cut into pieces of any size, empty ones too.
func TestCutAnywhere(t *testing.T) {
	r := rand.New(rand.NewSource(10))
	for range 400 {
		b := random(r, r.Intn(3000))
		h := hash.New()
		for rest := b; len(rest) > 0; {
			n := min(r.Intn(1+r.Intn(400)), len(rest))
			if e := h.Write(rest[:n]); e != api.OK {
				t.Fatalf("Write: %d", e)
			}
			rest = rest[n:]
			switch r.Intn(4) {
			case 0:
				hold(t, []taker{{h, b[:len(b)-len(rest)]}})
			case 1:
				h.Copy().Write([]byte("elsewhere"))
			}
		}
		if h.Sum() != hash.Md5(b) {
			t.Fatalf("%d bytes: %x, want %x", len(b), h.Sum(), hash.Md5(b))
		}
	}
}

// P3.5
func TestShortKeys(t *testing.T) {
	r := rand.New(rand.NewSource(11))
	for n := range 64 {
		k, b := random(r, n), random(r, r.Intn(150))
		want := hash.Mac(k, b)
		for len(k) < 64 {
			k = append(k, 0)
			if got := hash.Mac(k, b); got != want {
				t.Fatalf("a key of %d bytes, with bytes 0 up to %d: %x, want %x", n, len(k), got, want)
			}
		}
		if hash.Mac(append(k, 0), b) == want {
			t.Errorf("a key of %d bytes, with bytes 0 up to 65: the same", n)
		}
	}
}

// P3.5
func TestLongKeys(t *testing.T) {
	r := rand.New(rand.NewSource(12))
	for n := 65; n < 300; n++ {
		k, b := random(r, n), random(r, r.Intn(150))
		d := hash.Md5(k)
		if got, want := hash.Mac(k, b), hash.Mac(d[:], b); got != want {
			t.Errorf("a key of %d bytes: %x, with its digest %x", n, got, want)
		}
	}
	// 64 bytes are a row by themselves.
	k := random(r, 64)
	d := hash.Md5(k)
	if hash.Mac(k, []byte("b")) == hash.Mac(d[:], []byte("b")) {
		t.Error("a key of 64 bytes is taken as its digest")
	}
}

// P3.6
func TestNested(t *testing.T) {
	r := rand.New(rand.NewSource(13))
	for _, k := range keys() {
		for range 4 {
			b := random(r, r.Intn(200))
			inner := hash.Md5(append(laid(k, 0x36), b...))
			if got, want := hash.Mac(k, b), hash.Md5(append(laid(k, 0x5c), inner[:]...)); got != want {
				t.Fatalf("a key of %d bytes: %x, want %x", len(k), got, want)
			}
		}
	}
}

// R3: rows, and the room behind their ends, stay as they are.
func TestLeavesRows(t *testing.T) {
	r := rand.New(rand.NewSource(14))
	for _, n := range []int{0, 1, 7, 55, 56, 63, 64, 65, 100, 1000} {
		whole, wholeKey := random(r, n+200), random(r, n+200)
		was, wasKey := slices.Clone(whole), slices.Clone(wholeKey)
		b, k := whole[:n], wholeKey[:n]
		hash.Md5(b)
		hash.Mac(k, b)
		h := hash.New()
		h.Write(b)
		h.Sum()
		h.Copy().Write(b)
		if !bytes.Equal(whole, was) || !bytes.Equal(wholeKey, wasKey) {
			t.Errorf("a row of %d bytes was changed", n)
		}
	}
}

// R3: what was handed in is not kept.
func TestKeepsNoRow(t *testing.T) {
	for _, n := range []int{1, 9, 63, 64, 65, 128, 150} {
		b := many('a', n)
		h := hash.New()
		h.Write(b)
		c := h.Copy()
		clear(b)
		hold(t, []taker{{h, many('a', n)}, {c, many('a', n)}})
		copy(b, many('b', n))
		h.Write(b)
		clear(b)
		hold(t, []taker{{h, append(many('a', n), many('b', n)...)}, {c, many('a', n)}})
	}
}

// R3: a digest is the caller's own.
func TestDigestIsNew(t *testing.T) {
	h := hash.New()
	h.Write([]byte("abc"))
	d := h.Sum()
	clear(d[:])
	hold(t, []taker{{h, []byte("abc")}})
}

// R2: nothing is left behind in the package: the same is asked again, with other calls between.
func TestSameAgain(t *testing.T) {
	for range 3 {
		for _, b := range rows()[:150] {
			want, wantMac := md5.Sum(b), mac([]byte("k"), b)
			hash.Mac(many('k', 100), []byte("between"))
			other := hash.New()
			other.Write([]byte("between"))
			hash.Tell(other.Sum())
			if hash.Md5(b) != want || hash.Mac([]byte("k"), b) != wantMac {
				t.Fatalf("of %d bytes: not the same again", len(b))
			}
		}
	}
}
