package sum_test

import (
	"bytes"
	"hash/crc32"
	"math"
	"math/rand"
	"slices"
	"testing"

	"posthorn/api"
	"posthorn/sum"
)

// many is a row of n bytes that are all c.
func many(c byte, n int) []byte { return bytes.Repeat([]byte{c}, n) }

// random is a row of n bytes of all sorts, from a source that begins the same way each time.
func random(r *rand.Rand, n int) []byte {
	b := make([]byte, n)
	for i := range b {
		b[i] = byte(r.Intn(256))
	}
	return b
}

// rows are rows of all sorts, the same ones each time.
func rows() [][]byte {
	l := [][]byte{nil, {}, []byte("a"), []byte("123456789"), many(0, 1), many(0, 100), many(255, 4), many(255, 100)}
	r := rand.New(rand.NewSource(2))
	for n := range 140 {
		l = append(l, random(r, n))
	}
	for _, n := range []int{255, 256, 257, 511, 1000, 4096, 65537} {
		l = append(l, random(r, n))
	}
	return l
}

// numbers are numbers of 32 bits: none, all, each bit alone, and some others.
func numbers() []uint32 {
	l := []uint32{0, math.MaxUint32, 0xE3069283, 0x82F63B78, 0x7FFFFFFF}
	for i := range 32 {
		l = append(l, 1<<i)
	}
	r := rand.New(rand.NewSource(3))
	for range 20 {
		l = append(l, r.Uint32())
	}
	return l
}

// step moves a register by one bit, as the chapter tells it.
func step(register uint32) uint32 {
	if register%2 == 1 {
		return register/2 ^ 0x82F63B78
	}
	return register / 2
}

// moved moves a number by a byte, as the chapter tells it.
func moved(number uint32) uint32 {
	for range 8 {
		number = step(number)
	}
	return number
}

// taken is what the chapter's register comes to, from its begin on.
func taken(register uint32, b []byte) uint32 {
	for _, c := range b {
		register = moved(register ^ uint32(c))
	}
	return register
}

// crc is the same sum as others work it out.
func crc(b []byte) uint32 { return crc32.Checksum(b, crc32.MakeTable(crc32.Castagnoli)) }

// product multiplies two polynomials whose highest power stands in the lowest bit, modulo the sum's own one.
func product(a, b uint32) uint32 {
	var p uint32
	for i := 31; i >= 0; i-- {
		if b>>i&1 == 1 {
			p ^= a
		}
		a = step(a)
	}
	return p
}

// farMoved moves a number by n bytes: it multiplies it by the power x^8n, worked out from n's highest digit down.
func farMoved(number uint32, n int64) uint32 {
	power := uint32(1) << 31
	for i := 62; i >= 0; i-- {
		power = product(power, power)
		if n>>i&1 == 1 {
			power = moved(power)
		}
	}
	return product(number, power)
}

// lengths are how far a number may be moved, up to the farthest.
func lengths() []int64 {
	l := []int64{0, math.MaxInt64, math.MaxInt64 - 1, math.MaxInt64 / 2, math.MaxInt32, math.MaxUint32}
	for i := range 63 {
		l = append(l, 1<<i, 1<<i-1, 1<<i+1)
	}
	r := rand.New(rand.NewSource(4))
	for range 100 {
		l = append(l, r.Int63()>>r.Intn(60))
	}
	return l
}

// joined is Join's answer where there is no error.
func joined(t *testing.T, a, b uint32, n int64) uint32 {
	t.Helper()
	got, e := sum.Join(a, b, n)
	if e != api.OK {
		t.Fatalf("Join(%X, %X, %d): error %d", a, b, n, e)
	}
	return got
}

// P2.1
func TestOf(t *testing.T) {
	for _, b := range rows() {
		got := sum.Of(b)
		if want := ^taken(math.MaxUint32, b); got != want || got != crc(b) {
			t.Errorf("Of of %d bytes: %X, want %X", len(b), got, want)
		}
	}
	for c := range 256 {
		if got, want := sum.Of([]byte{byte(c)}), ^moved(0xFFFFFFFF^uint32(c)); got != want {
			t.Errorf("Of of the byte %d: %X, want %X", c, got, want)
		}
	}
	if sum.Of(nil) != 0 || sum.Of([]byte{}) != 0 {
		t.Error("Of of no bytes is not 0")
	}
	if sum.Of([]byte{0}) == 0 {
		t.Error("Of of a byte 0 is that of none")
	}
}

// P2.1
func TestOfLongRow(t *testing.T) {
	b := random(rand.New(rand.NewSource(5)), 1<<22+3)
	if got, want := sum.Of(b), crc(b); got != want {
		t.Errorf("%X, want %X", got, want)
	}
}

// P2.2
func TestMore(t *testing.T) {
	for _, n := range numbers() {
		for _, b := range rows()[:60] {
			if got, want := sum.More(n, b), ^taken(^n, b); got != want {
				t.Fatalf("More(%X, %d bytes): %X, want %X", n, len(b), got, want)
			}
		}
		if sum.More(n, nil) != n || sum.More(n, []byte{}) != n {
			t.Errorf("More(%X, no bytes) is another number", n)
		}
		for c := range 256 {
			if got, want := sum.More(n, []byte{byte(c)}), ^moved(^n^uint32(c)); got != want {
				t.Fatalf("More(%X, the byte %d): %X, want %X", n, c, got, want)
			}
		}
	}
}

// P2.3, R4
func TestJoinBelowNought(t *testing.T) {
	for _, n := range []int64{-1, -2, -8, -256, math.MinInt32, math.MinInt64, math.MinInt64 + 1} {
		for _, a := range numbers() {
			if got, e := sum.Join(a, ^a, n); got != 0 || e != api.ErrArg {
				t.Errorf("Join(%X, %X, %d): %X, %d", a, ^a, n, got, e)
			}
		}
	}
}

// P2.3
func TestJoinOfNoBytes(t *testing.T) {
	for _, a := range numbers() {
		for _, b := range numbers() {
			if got := joined(t, a, b, 0); got != a^b {
				t.Errorf("Join(%X, %X, 0): %X", a, b, got)
			}
		}
	}
}

// P2.3
func TestJoinByteByByte(t *testing.T) {
	for _, a := range numbers() {
		want := a
		for n := range int64(700) {
			if got := joined(t, a, 0, n); got != want {
				t.Fatalf("Join(%X, 0, %d): %X, want %X", a, n, got, want)
			}
			if got := joined(t, a, 0x5EED1234, n); got != want^0x5EED1234 {
				t.Fatalf("Join(%X, 5EED1234, %d): %X, want %X", a, n, got, want^0x5EED1234)
			}
			want = moved(want)
		}
	}
}

// P2.3
func TestJoinFar(t *testing.T) {
	for _, n := range lengths() {
		for _, a := range numbers() {
			if got, want := joined(t, a, ^a, n), farMoved(a, n)^^a; got != want {
				t.Fatalf("Join(%X, %X, %d): %X, want %X", a, ^a, n, got, want)
			}
		}
	}
}

// farMoved is asked here too, so that it is known to tell what the chapter does.
func TestFarMoved(t *testing.T) {
	for _, a := range numbers() {
		want := a
		for n := range int64(300) {
			if got := farMoved(a, n); got != want {
				t.Fatalf("%X, moved by %d: %X, want %X", a, n, got, want)
			}
			want = moved(want)
		}
	}
}

// told is a stream, and the bytes that it must be of.
type told struct {
	s *sum.Stream
	b []byte
}

// P2.4, R2: streams side by side, written to, reset and copied in any order.
func TestStreams(t *testing.T) {
	r := rand.New(rand.NewSource(6))
	for range 60 {
		l := []told{{sum.New(), nil}, {sum.New(), nil}}
		for range 60 {
			k := r.Intn(len(l))
			switch act := r.Intn(10); {
			case act == 0:
				l[k].s.Reset()
				l[k].b = nil
			case act == 1:
				l = append(l, told{l[k].s.Copy(), slices.Clone(l[k].b)})
			case act == 2:
				l = append(l, told{sum.New(), nil})
			default:
				b := random(r, r.Intn(20))
				if e := l[k].s.Write(b); e != api.OK {
					t.Fatalf("Write: %d", e)
				}
				l[k].b = append(l[k].b, b...)
				clear(b)
			}
			hold(t, l)
		}
	}
}

// hold holds streams against their bytes; twice, for asking changes nothing.
func hold(t *testing.T, l []told) {
	t.Helper()
	for range 2 {
		for i, x := range l {
			if x.s.Sum() != crc(x.b) || x.s.Len() != int64(len(x.b)) {
				t.Fatalf("stream %d: sum %X, length %d; want %X, %d", i, x.s.Sum(), x.s.Len(), crc(x.b), len(x.b))
			}
		}
	}
}

// P2.4
func TestNewStream(t *testing.T) {
	s, other := sum.New(), sum.New()
	if s == nil || s == other {
		t.Fatal("New makes none of its own")
	}
	for _, b := range [][]byte{nil, {}} {
		if e := s.Write(b); e != api.OK || s.Sum() != 0 || s.Len() != 0 {
			t.Errorf("no bytes written: %d, %X, %d", e, s.Sum(), s.Len())
		}
	}
	if e := s.Write(many(0, 1)); e != api.OK || s.Sum() != crc(many(0, 1)) || s.Len() != 1 {
		t.Errorf("a byte 0 written: %d, %X, %d", e, s.Sum(), s.Len())
	}
	if other.Len() != 0 || other.Sum() != 0 {
		t.Error("a stream is seen in another")
	}
}

// P2.4: neither of a stream and its copy is seen in the other, whichever is written to or reset.
func TestCopy(t *testing.T) {
	s := sum.New()
	s.Write([]byte("12345"))
	c := s.Copy()
	if c == nil || c == s {
		t.Fatal("Copy makes none of its own")
	}
	hold(t, []told{{s, []byte("12345")}, {c, []byte("12345")}})
	c.Write([]byte("xyz"))
	hold(t, []told{{s, []byte("12345")}, {c, []byte("12345xyz")}})
	s.Write([]byte("6"))
	hold(t, []told{{s, []byte("123456")}, {c, []byte("12345xyz")}})
	d := c.Copy()
	c.Reset()
	hold(t, []told{{s, []byte("123456")}, {c, nil}, {d, []byte("12345xyz")}})
	e := c.Copy()
	if e == nil {
		t.Fatal("a copy of a reset stream is none")
	}
	e.Write([]byte("q"))
	s.Reset()
	hold(t, []told{{s, nil}, {c, nil}, {d, []byte("12345xyz")}, {e, []byte("q")}})
}

// P2.4
func TestReset(t *testing.T) {
	s := sum.New()
	s.Reset()
	hold(t, []told{{s, nil}})
	for range 3 {
		if e := s.Write([]byte("abc")); e != api.OK {
			t.Fatalf("Write behind Reset: %d", e)
		}
		hold(t, []told{{s, []byte("abc")}})
		s.Reset()
		s.Reset()
		hold(t, []told{{s, nil}})
	}
}

// P2.4, R1: of a stream that is nil, or that New did not make, nothing is told, and nothing comes of it.
func TestNoStream(t *testing.T) {
	var zero sum.Stream
	for i, s := range []*sum.Stream{nil, &zero, new(sum.Stream), {}} {
		for range 2 {
			for _, b := range [][]byte{[]byte("1"), {}, nil} {
				if e := s.Write(b); e != api.ErrNil {
					t.Errorf("%d: Write: %d", i, e)
				}
			}
			if s.Sum() != 0 || s.Len() != 0 || s.Copy() != nil {
				t.Errorf("%d: Sum %X, Len %d, Copy %v", i, s.Sum(), s.Len(), s.Copy())
			}
			s.Reset()
		}
	}
	if zero != (sum.Stream{}) {
		t.Error("a stream that is none was changed")
	}
}

// P2.5, P12: each row is cut at each place.
func TestCutInTwo(t *testing.T) {
	for _, b := range rows()[:100] {
		want := sum.Of(b)
		for at := range len(b) + 1 {
			x, y := b[:at], b[at:]
			if got := sum.More(sum.Of(x), y); got != want {
				t.Fatalf("More, %d bytes cut at %d: %X, want %X", len(b), at, got, want)
			}
			if got := joined(t, sum.Of(x), sum.Of(y), int64(len(y))); got != want {
				t.Fatalf("Join, %d bytes cut at %d: %X, want %X", len(b), at, got, want)
			}
			s := sum.New()
			s.Write(x)
			s.Write(y)
			hold(t, []told{{s, b}})
		}
	}
}

// P2.5, P12: rows are cut into pieces of any size, empty ones too.
func TestCutAnywhere(t *testing.T) {
	r := rand.New(rand.NewSource(7))
	for range 300 {
		b := random(r, r.Intn(3000))
		want := crc(b)
		var more, join uint32
		s := sum.New()
		for rest := b; len(rest) > 0; {
			n := min(r.Intn(1+r.Intn(400)), len(rest))
			piece := rest[:n]
			rest = rest[n:]
			more = sum.More(more, piece)
			join = joined(t, join, sum.Of(piece), int64(n))
			if e := s.Write(piece); e != api.OK {
				t.Fatalf("Write: %d", e)
			}
		}
		if more != want || join != want || s.Sum() != want || s.Len() != int64(len(b)) {
			t.Fatalf("%d bytes: More %X, Join %X, Sum %X, want %X; Len %d", len(b), more, join, s.Sum(), want, s.Len())
		}
	}
}

// P2.6
func TestJoinFromEitherSide(t *testing.T) {
	r := rand.New(rand.NewSource(8))
	for range 1500 {
		a, b, c := r.Uint32(), r.Uint32(), r.Uint32()
		both := r.Int63() >> r.Intn(63)
		if r.Intn(20) == 0 {
			both = math.MaxInt64
		}
		m := both
		if both < math.MaxInt64 {
			m = r.Int63n(both + 1)
		} else {
			m >>= r.Intn(64)
		}
		n := both - m
		left := joined(t, joined(t, a, b, n), c, m)
		right := joined(t, a, joined(t, b, c, m), n+m)
		if left != right {
			t.Fatalf("%X, %X, %X, %d, %d: %X and %X", a, b, c, n, m, left, right)
		}
		if got := joined(t, a, 0, 0); got != a {
			t.Fatalf("Join(%X, 0, 0): %X", a, got)
		}
	}
}

// turned is a row whose bits from the place on (each byte's lowest bit first) are turned where pattern has a 1.
func turned(b []byte, place int, pattern uint32) []byte {
	c := slices.Clone(b)
	for i := range 32 {
		if at := place + i; pattern>>i&1 == 1 && at < 8*len(c) {
			c[at/8] ^= 1 << (at % 8)
		}
	}
	return c
}

// P2.7
func TestFewBits(t *testing.T) {
	r := rand.New(rand.NewSource(9))
	patterns := []uint32{1, math.MaxUint32, 1<<31 | 1}
	for range 60 {
		patterns = append(patterns, r.Uint32())
	}
	// The sum's own polynomial, of 33 bits, is what would not be seen: shorter pieces of it, and it turned about, are.
	patterns = append(patterns, 0x82F63B78, 0x1EDC6F41, 0x05EC76F1, 0x8F6E37A0)
	for i := range 32 {
		for j := range i {
			patterns = append(patterns, 1<<i|1<<j)
		}
	}
	for _, n := range []int{1, 2, 3, 4, 5, 8, 13, 40} {
		b := random(r, n)
		for place := range 8 * n {
			for _, p := range patterns {
				c := turned(b, place, p)
				if !bytes.Equal(b, c) && sum.Of(b) == sum.Of(c) {
					t.Fatalf("%X and %X have one sum", b, c)
				}
			}
		}
	}
}

// P2.7: rows of four bytes differ within 32 bits, so no two of them have one sum.
func TestFewBitsAllDiffer(t *testing.T) {
	r := rand.New(rand.NewSource(10))
	row := map[uint32]uint32{}
	for range 200000 {
		n := r.Uint32()
		got := sum.Of([]byte{byte(n), byte(n >> 8), byte(n >> 16), byte(n >> 24)})
		if was, ok := row[got]; ok && was != n {
			t.Fatalf("%X and %X have the sum %X", was, n, got)
		}
		row[got] = n
	}
}

// P2.8
func TestLaidOver(t *testing.T) {
	r := rand.New(rand.NewSource(11))
	for n := range 300 {
		x, y, z := random(r, n), random(r, n), random(r, n)
		over := make([]byte, n)
		for i := range over {
			over[i] = x[i] ^ y[i] ^ z[i]
		}
		if got, want := sum.Of(over), sum.Of(x)^sum.Of(y)^sum.Of(z); got != want {
			t.Fatalf("%d bytes: %X, want %X", n, got, want)
		}
	}
}

// R3: rows, and the room behind their ends, stay as they are.
func TestLeavesRows(t *testing.T) {
	r := rand.New(rand.NewSource(12))
	for _, n := range []int{0, 1, 7, 64, 1000} {
		whole := random(r, n+50)
		was := slices.Clone(whole)
		b := whole[:n]
		sum.Of(b)
		sum.More(77, b)
		s := sum.New()
		s.Write(b)
		s.Copy().Write(b)
		s.Reset()
		if !bytes.Equal(whole, was) {
			t.Errorf("a row of %d bytes was changed", n)
		}
	}
}

// R3: what was handed in is not kept.
func TestKeepsNoRow(t *testing.T) {
	b := []byte("123456789")
	s := sum.New()
	s.Write(b)
	c := s.Copy()
	clear(b)
	hold(t, []told{{s, []byte("123456789")}, {c, []byte("123456789")}})
	copy(b, "abcdefghi")
	s.Write(b)
	clear(b)
	hold(t, []told{{s, []byte("123456789abcdefghi")}, {c, []byte("123456789")}})
}

// R2: nothing is left behind in the package: the same is asked again, with other calls between.
func TestSameAgain(t *testing.T) {
	for range 3 {
		for _, b := range rows()[:40] {
			want := sum.Of(b)
			sum.More(123, []byte("between"))
			joined(t, 5, 6, math.MaxInt64)
			sum.Join(5, 6, -1)
			other := sum.New()
			other.Write([]byte("between"))
			if sum.Of(b) != want || want != crc(b) {
				t.Fatalf("Of of %d bytes is not the same again", len(b))
			}
		}
		if got := joined(t, 1, 0, 1); got != 0xF26B8303 {
			t.Fatalf("Join is not the same again: %X", got)
		}
	}
}
