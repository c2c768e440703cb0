package runes_test

import (
	"slices"
	"testing"

	"posthorn/api"
	"posthorn/runes"
)

// The rows of the chapter's section Examples, one behind the other.

func TestExamplesBad(t *testing.T) {
	for _, c := range []struct {
		s    string
		want int
	}{{"abc", 3}, {"\x61\xC3", 1}, {"\xC0\x80", 0}, {"\xED\xA0\x80", 0}, {"\xF4\x90\x80\x80", 0}} {
		if got := runes.Bad(c.s); got != c.want {
			t.Errorf("Bad(% x): %d, want %d", c.s, got, c.want)
		}
	}
}

func TestExamplesDecode(t *testing.T) {
	for _, c := range []struct {
		s    string
		want []rune
		e    api.Spot
	}{
		{"\xC3\xA9", []rune{0xE9}, api.Spot{}},
		{"\xF0\x9F\x92\xA9", []rune{0x1F4A9}, api.Spot{}},
		{"\x61\xFF", nil, api.Spot{Err: api.ErrUtf, At: 1}},
	} {
		if l, e := runes.Decode(c.s); !slices.Equal(l, c.want) || e != c.e {
			t.Errorf("Decode(% x): %x, %v", c.s, l, e)
		}
	}
}

func TestExamplesEncode(t *testing.T) {
	for _, c := range []struct {
		l    []rune
		want string
		e    api.Spot
	}{
		{[]rune{0x20AC}, "\xE2\x82\xAC", api.Spot{}},
		{[]rune{0x61, 0xD800}, "", api.Spot{Err: api.ErrUtf, At: 1}},
		{[]rune{-1}, "", api.Spot{Err: api.ErrUtf, At: 0}},
		{[]rune{0x110000}, "", api.Spot{Err: api.ErrUtf, At: 0}},
	} {
		if s, e := runes.Encode(c.l); s != c.want || e != c.e {
			t.Errorf("Encode(%x): % x, %v", c.l, s, e)
		}
	}
}

func TestExamplesChecker(t *testing.T) {
	c := runes.New()
	for i, step := range []struct {
		b           string
		feed, whole bool
	}{{"\xE2", true, false}, {"\x82\xAC", true, true}, {"\x80", false, false}, {"\x61", false, false}} {
		if got := c.Feed([]byte(step.b)); got != step.feed {
			t.Errorf("%d: Feed(% x): %v", i, step.b, got)
		}
		if got := c.Whole(); got != step.whole {
			t.Errorf("%d: Whole behind % x: %v", i, step.b, got)
		}
	}
}

func TestExamplesPuny(t *testing.T) {
	for _, c := range []struct {
		l    []rune
		want string
	}{
		{[]rune{'b', 0xFC, 'c', 'h', 'e', 'r'}, "bcher-kva"},
		{[]rune{0xFC}, "tda"},
		{[]rune("abc"), "abc-"},
		{nil, ""},
		{[]rune{0x65E5, 0x672C, 0x8A9E}, "wgv71a119e"},
		{[]rune{0x2603}, "n3h"},
		{[]rune{0x1F4A9}, "ls8h"},
	} {
		if s, e := runes.Puny(c.l); s != c.want || e != api.OK {
			t.Errorf("Puny(%x): %q, %d, want %q", c.l, s, e, c.want)
		}
	}
}

func TestExamplesUnpuny(t *testing.T) {
	for _, c := range []struct {
		s    string
		want []rune
		e    api.Spot
	}{
		{"bcher-kva", []rune{'b', 0xFC, 'c', 'h', 'e', 'r'}, api.Spot{}},
		{"bcher-KVA", []rune{'b', 0xFC, 'c', 'h', 'e', 'r'}, api.Spot{}},
		{"--", []rune{'-'}, api.Spot{}},
		{"-", nil, api.Spot{Err: api.ErrPuny, At: 0}},
		{"bcher-kv", nil, api.Spot{Err: api.ErrPuny, At: 8}},
		{"a!", nil, api.Spot{Err: api.ErrPuny, At: 1}},
		{"99999999", nil, api.Spot{Err: api.ErrOver, At: 7}},
	} {
		if l, e := runes.Unpuny(c.s); !slices.Equal(l, c.want) || e != c.e {
			t.Errorf("Unpuny(%q): %x, %v", c.s, l, e)
		}
	}
}
