package hash_test

import (
	"strings"
	"testing"

	"posthorn/api"
	"posthorn/hash"
)

// The table of the chapter's section Examples, row by row.

func TestExamplesMd5(t *testing.T) {
	for _, c := range []struct{ text, want string }{
		{"", "d41d8cd98f00b204e9800998ecf8427e"},
		{"a", "0cc175b9c0f1b6a831c399e269772661"},
		{"abc", "900150983cd24fb0d6963f7d28e17f72"},
		{"message digest", "f96b697d7cb7938d525a2f31aaf161d0"},
		{"abcdefghijklmnopqrstuvwxyz", "c3fcd3d76192e4007dfb496cca67e13b"},
	} {
		if got := hash.Tell(hash.Md5([]byte(c.text))); got != c.want {
			t.Errorf("Md5(%q): %s, want %s", c.text, got, c.want)
		}
	}
}

func TestExamplesMac(t *testing.T) {
	for _, c := range []struct {
		key        []byte
		text, want string
	}{
		{many(0x0b, 16), "Hi There", "9294727a3638bb1c13f48ef8158bfc9d"},
		{[]byte("Jefe"), "what do ya want for nothing?", "750c783e6ab0b503eaa86e310a5db738"},
	} {
		if got := hash.Tell(hash.Mac(c.key, []byte(c.text))); got != c.want {
			t.Errorf("Mac(%q, %q): %s, want %s", c.key, c.text, got, c.want)
		}
	}
}

func TestExamplesTell(t *testing.T) {
	if got, want := hash.Tell([16]byte(many(0x0f, 16))), strings.Repeat("0f", 16); got != want {
		t.Errorf("%s, want %s", got, want)
	}
}

func TestExamplesHash(t *testing.T) {
	h := hash.New()
	if e := h.Write([]byte("ab")); e != api.OK {
		t.Errorf("Write(ab): %d", e)
	}
	c := h.Copy()
	for _, x := range []*hash.Hash{h, c} {
		if e := x.Write([]byte("c")); e != api.OK {
			t.Errorf("Write(c): %d", e)
		}
	}
	want := hash.Md5([]byte("abc"))
	if h.Sum() != want || c.Sum() != want {
		t.Errorf("%x and %x, want %x", h.Sum(), c.Sum(), want)
	}
}

func TestExamplesNilHash(t *testing.T) {
	var h *hash.Hash
	if e := h.Write([]byte("ab")); e != api.ErrNil {
		t.Errorf("Write: %d", e)
	}
}
