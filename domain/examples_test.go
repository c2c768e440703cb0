package domain_test

import (
	"testing"

	"posthorn/api"
	"posthorn/domain"
)

// The chapter's section Examples, row by row.

func name(s string) api.Host { return api.Host{Kind: api.HostName, Name: s} }
func tagged(s string) api.Host {
	return api.Host{Kind: api.HostTag, Name: s}
}
func fourth(a, b, c, d byte) api.Host {
	return api.Host{Kind: api.HostV4, Addr: [16]byte{a, b, c, d}}
}
func sixth(l ...uint16) api.Host {
	return api.Host{Kind: api.HostV6, Addr: sixteen(l...)}
}

// sixteen is the address of groups; those that are not said are 0.
func sixteen(l ...uint16) [16]byte {
	var a [16]byte
	for i, n := range l {
		a[2*i], a[2*i+1] = byte(n>>8), byte(n)
	}
	return a
}

func TestExamplesOfParse(t *testing.T) {
	for _, c := range []struct {
		s    string
		wide bool
		host api.Host
		spot api.Spot
	}{
		{"mx.example", false, name("mx.example"), api.Spot{}},
		{"a-b.c1", false, name("a-b.c1"), api.Spot{}},
		{"", false, api.Host{}, api.Spot{Err: api.ErrLabel, At: 0}},
		{"a.", false, api.Host{}, api.Spot{Err: api.ErrLabel, At: 2}},
		{"a..b", false, api.Host{}, api.Spot{Err: api.ErrLabel, At: 2}},
		{"-a", false, api.Host{}, api.Spot{Err: api.ErrLabel, At: 0}},
		{"a-.b", false, api.Host{}, api.Spot{Err: api.ErrLabel, At: 2}},
		{"a_b", false, api.Host{}, api.Spot{Err: api.ErrLabel, At: 1}},
		{"\xc3\xbc.de", false, api.Host{}, api.Spot{Err: api.ErrLabel, At: 0}},
		{"\xc3\xbc.de", true, name("\xc3\xbc.de"), api.Spot{}},
		{"\xc3.de", true, api.Host{}, api.Spot{Err: api.ErrLabel, At: 0}},
		{"[1.2.3.4]", false, fourth(1, 2, 3, 4), api.Spot{}},
		{"[1.2.3.256]", false, api.Host{}, api.Spot{Err: api.ErrAddr, At: 9}},
		{"[01.2.3.4]", false, api.Host{}, api.Spot{Err: api.ErrAddr, At: 2}},
		{"[1.2.3]", false, api.Host{}, api.Spot{Err: api.ErrAddr, At: 6}},
		{"[1.2.3.4", false, api.Host{}, api.Spot{Err: api.ErrAddr, At: 8}},
		{"[ipv6:::1]", false, sixth(0, 0, 0, 0, 0, 0, 0, 1), api.Spot{}},
		{"[IPv6:1:2]", false, api.Host{}, api.Spot{Err: api.ErrAddr, At: 9}},
		{"[x-y:z]", false, tagged("x-y:z"), api.Spot{}},
		{"[x-:z]", false, api.Host{}, api.Spot{Err: api.ErrTag, At: 3}},
		{"[:z]", false, api.Host{}, api.Spot{Err: api.ErrTag, At: 1}},
		{"[x:]", false, api.Host{}, api.Spot{Err: api.ErrTag, At: 3}},
	} {
		if h, spot := domain.Parse(c.s, c.wide); h != c.host || spot != c.spot {
			t.Errorf("Parse(%q, %v): %v, %v, want %v, %v", c.s, c.wide, h, spot, c.host, c.spot)
		}
	}
}

func TestExamplesOfAddresses(t *testing.T) {
	for _, c := range []struct {
		s    string
		addr [16]byte
		spot api.Spot
	}{
		{"1:2:3:4:5:6:7::", [16]byte{}, api.Spot{Err: api.ErrAddr, At: 14}},
		{"1::2:3:4:5:6:7", [16]byte{}, api.Spot{Err: api.ErrAddr, At: 12}},
		{"1:2:3:4:5:6:1.2.3.4", sixteen(1, 2, 3, 4, 5, 6, 0x102, 0x304), api.Spot{}},
		{"::256.1.1.1", [16]byte{}, api.Spot{Err: api.ErrAddr, At: 5}},
	} {
		if a, spot := domain.V6(c.s); a != c.addr || spot != c.spot {
			t.Errorf("V6(%q): %v, %v, want %v, %v", c.s, a, spot, c.addr, c.spot)
		}
	}
	for _, c := range []struct {
		a    [16]byte
		want string
	}{
		{sixteen(0x2001, 0xdb8, 0, 0, 1, 0, 0, 1), "2001:db8::1:0:0:1"},
		{sixteen(1, 0, 2, 3, 4, 5, 6, 7), "1:0:2:3:4:5:6:7"},
		{sixteen(), "::"},
	} {
		if got := domain.PrintV6(c.a); got != c.want {
			t.Errorf("PrintV6(%v): %s, want %s", c.a, got, c.want)
		}
	}
}

func TestExamplesOfHosts(t *testing.T) {
	wide := name("B\xc3\xbccher.DE")
	if h, e := domain.Ascii(wide); h != name("xn--bcher-kva.de") || e != api.OK {
		t.Errorf("Ascii: %v, %d", h, e)
	}
	if !domain.Same(wide, name("xn--bcher-kva.de")) {
		t.Error("Same of a wide domain and what Ascii makes of it")
	}
	for bits, want := range map[int]bool{8: true, 9: true, 16: false, 33: false} {
		if got := domain.Within(fourth(10, 1, 2, 3), fourth(10, 0, 0, 0), bits); got != want {
			t.Errorf("Within, %d bits: %v", bits, got)
		}
	}
}
