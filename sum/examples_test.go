package sum_test

import (
	"testing"

	"posthorn/api"
	"posthorn/sum"
)

// The table of the chapter's section Examples, row by row.

func TestExamplesOf(t *testing.T) {
	var up []byte
	for i := range 32 {
		up = append(up, byte(i))
	}
	for _, c := range []struct {
		name string
		b    []byte
		want uint32
	}{
		{"no bytes", nil, 0},
		{"123456789", []byte("123456789"), 0xE3069283},
		{"32 bytes 0", many(0, 32), 0x8A9136AA},
		{"32 bytes FF", many(0xFF, 32), 0x62A8AB43},
		{"0, 1, 2 .. 31", up, 0x46DD794E},
	} {
		if got := sum.Of(c.b); got != c.want {
			t.Errorf("Of of %s: %X, want %X", c.name, got, c.want)
		}
	}
}

func TestExamplesMore(t *testing.T) {
	if got := sum.More(0, []byte("123456789")); got != 0xE3069283 {
		t.Errorf("More(0, 123456789): %X", got)
	}
	if got := sum.More(sum.Of([]byte("1234")), []byte("56789")); got != 0xE3069283 {
		t.Errorf("More(the sum of 1234, 56789): %X", got)
	}
}

func TestExamplesJoin(t *testing.T) {
	for _, c := range []struct {
		a, b uint32
		n    int64
		want uint32
		err  api.Errno
	}{
		{sum.Of([]byte("12345")), sum.Of([]byte("6789")), 4, 0xE3069283, api.OK},
		{1, 0, 1, 0xF26B8303, api.OK},
		{1, 5, 0, 4, api.OK},
		{7, 7, -1, 0, api.ErrArg},
	} {
		if got, e := sum.Join(c.a, c.b, c.n); got != c.want || e != c.err {
			t.Errorf("Join(%X, %X, %d): %X, %d, want %X, %d", c.a, c.b, c.n, got, e, c.want, c.err)
		}
	}
}

func TestExamplesStream(t *testing.T) {
	s := sum.New()
	if e := s.Write([]byte("12345")); e != api.OK {
		t.Errorf("Write(12345): %d", e)
	}
	c := s.Copy()
	if e := s.Write([]byte("6789")); e != api.OK {
		t.Errorf("Write(6789): %d", e)
	}
	if s.Sum() != 0xE3069283 || s.Len() != 9 || c.Len() != 5 {
		t.Errorf("Sum %X, Len %d, the copy's Len %d", s.Sum(), s.Len(), c.Len())
	}
}

func TestExamplesNilStream(t *testing.T) {
	var s *sum.Stream
	if e := s.Write([]byte("1")); e != api.ErrNil || s.Sum() != 0 || s.Len() != 0 || s.Copy() != nil {
		t.Errorf("Write %d, Sum %X, Len %d, Copy %v", e, s.Sum(), s.Len(), s.Copy())
	}
}
