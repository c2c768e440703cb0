package path_test

import (
	"math"
	"math/rand"
	"reflect"
	"strings"
	"testing"

	"posthorn/api"
	"posthorn/domain"
	"posthorn/path"
	"posthorn/runes"
)

// modelCheck is what P9.3 says; whole: the last error is asked for, too.
func modelCheck(p api.Path, wide, whole bool) api.Errno {
	if p.Kind < 1 || p.Kind > 3 {
		return api.ErrPath
	}
	if p.Kind < 3 {
		if len(p.Route) > 0 || p.Box != (api.Mailbox{}) {
			return api.ErrPath
		}
		return api.OK
	}
	first := api.OK
	for _, h := range p.Route {
		if h.Kind != api.HostName {
			return api.ErrRoute
		}
		if e := domain.Check(h, wide); first == api.OK {
			first = e
		}
	}
	if len(p.Route) > 16 {
		return api.ErrRoute
	}
	if first != api.OK {
		return first
	}
	high := false
	for _, b := range []byte(p.Box.Local) {
		if b < 32 || b == 127 {
			return api.ErrLocal
		}
		high = high || b > 127
	}
	switch {
	case len(modelLocal(p.Box.Local)) > 64:
		return api.ErrLocal
	case high && !wide || runes.Bad(p.Box.Local) < len(p.Box.Local):
		return api.ErrWide
	case domain.Check(p.Box.Host, wide) != api.OK:
		return domain.Check(p.Box.Host, wide)
	case whole && len(modelWritten(p)) > 256:
		return api.ErrPath
	}
	return api.OK
}

// locals are local parts of all sorts.
func locals() []string {
	l := []string{
		"", "a", "A", "a.b", ".a", "a.", "a..b", ".", "..", "a b", " ", `"`, `\`, `\"`, "a@b", "a,b", "(a)", "a<>b", "a:b;c", "[a]", "postmaster", "POSTMASTER", "Postmaster.", "\xc3\xa4", "a\xc3\xa4.b", "\xc3\xa4 \xe2\x82\xac", ".\xc3\xa4", "\xc3", "a\xff", "\xff.", "\xed\xa0\x80", "\xc3\xa4\x01", "\x7f", "\x1f", "\x00", "~", "\x80", "!#$%&'*+-/=?^_`{|}~",
		"a\nb", "\xff\x1f", "a\x7f\xff",
	}
	for n := 58; n <= 66; n++ {
		l = append(l, strings.Repeat("a", n), strings.Repeat("a", n-1)+".", strings.Repeat("a", n-1)+" ", strings.Repeat("a", n-1)+`\`, strings.Repeat("a", n-2)+`""`, strings.Repeat("a.", n)[:n-1]+"b", strings.Repeat("\xc3\xa4", n/2), strings.Repeat("\xc3\xa4", n/2)+" ", strings.Repeat("\xff", n), strings.Repeat("a", n)+"\x01")
	}
	for n := 30; n <= 33; n++ {
		l = append(l, strings.Repeat(`"`, n), strings.Repeat(`\`, n), strings.Repeat(`\"`, n/2)+"a", strings.Repeat(`\`, n)+"a")
	}
	return l
}

// hostsOf are hosts of all sorts, also such as may not be.
func hostsOf() []api.Host {
	return []api.Host{
		name("x"), name("X"), name("a.example"), name("A.Example"), name("\xc3\xbc.de"), name("xn--tda.de"), name("\xc3"), name(""), name("a..b"), name("a_"), name(strings.Repeat("h", 64)), name(strings.Repeat("h.", 128)),
		fourth(1, 2, 3, 4), {Kind: api.HostV6, Addr: [16]byte{15: 1}}, {Kind: api.HostTag, Name: "x:y>"}, {Kind: api.HostTag, Name: "X:y>"}, {Kind: api.HostTag, Name: "x"}, {Kind: api.HostTag, Name: "x:\xff"}, {Kind: api.HostTag, Name: "x:" + strings.Repeat("y", 252)}, {}, {Kind: 5, Name: "x"}, {Kind: -1}, {Kind: api.HostName, Name: "x", Addr: [16]byte{1}}, {Kind: api.HostV4, Name: "\xff"}, {Kind: api.HostV4, Addr: [16]byte{15: 1}},
	}
}

// pathsOf are paths of all sorts, also such as may not be.
func pathsOf() []api.Path {
	many := make([]api.Host, 18)
	for i := range many {
		many[i] = name("r")
	}
	bad := append([]api.Host{name("a..b")}, many...)
	var l []api.Path
	routes := [][]api.Host{nil, {}, many[:1], many[:15], many[:16], many[:17], many, bad[:1], bad[:17], names("a", "", strings.Repeat("h.", 128)), names("a", strings.Repeat("h.", 128), ""), {fourth(1, 2, 3, 4)}, {name("a"), {Kind: api.HostV6}}, {name(""), {}}, {{Kind: api.HostTag, Name: "x:y"}}, names("\xc3\xbc"), names("a", "\xff")}
	for _, route := range routes {
		for _, h := range hostsOf() {
			for _, local := range locals() {
				l = append(l, api.Path{Kind: api.PathBox, Route: route, Box: api.Mailbox{Local: local, Host: h}})
			}
		}
	}
	for _, kind := range []int{math.MinInt, -1, 0, 1, 2, 4, 5, 257, 258, 3 + 1<<32, math.MaxInt} {
		for _, route := range [][]api.Host{nil, {}, many[:1], {{}}, {name("\xff")}} {
			for _, m := range []api.Mailbox{{}, {Local: "a"}, mailbox("a", "x"), {Host: name("")}, {Host: api.Host{Kind: api.HostV4}}, {Host: api.Host{Addr: [16]byte{15: 1}}}, {Host: api.Host{Name: "\xff"}}, {Local: "\x80"}} {
				l = append(l, api.Path{Kind: kind, Route: route, Box: m})
			}
		}
	}
	// Paths of some bytes less and more than there may be.
	for n := 250; n <= 260; n++ {
		for _, local := range []string{"a", "a b", "\xc3\xa4", `"\`} {
			for _, h := range []api.Host{name("x"), fourth(1, 2, 3, 4), {Kind: api.HostV6}} {
				p := api.Path{Kind: api.PathBox, Route: names(strings.Repeat("r.", 90)+"r", "s"), Box: api.Mailbox{Local: local, Host: h}}
				p.Route[1].Name = strings.Repeat("s.", 40)[:max(n-len(modelWritten(p))+1, 1)|1]
				l = append(l, p)
				p.Route = append([]api.Host{}, p.Route...)
				p.Route[0].Name += "r"
				l = append(l, p)
			}
		}
	}
	return l
}

// sound tells whether Check takes a path, with this wide.
func sound(p api.Path, wide bool) bool { return path.Check(p, wide) == api.OK }

// P9.3, P9.4, R1, R5, R8: Check and both Prints, of everything.
func TestCheckAndPrint(t *testing.T) {
	taken := 0
	for _, p := range pathsOf() {
		for _, wide := range []bool{false, true} {
			if e := path.Check(p, wide); e != modelCheck(p, wide, true) {
				t.Errorf("Check(%v, %v): %d, want %d", p, wide, e, modelCheck(p, wide, true))
			}
		}
		want, wrong := "", modelCheck(p, true, true)
		if wrong == api.OK {
			want = modelWritten(p)
			taken++
		}
		if s, e := path.Print(p); s != want || e != wrong {
			t.Errorf("Print(%v): %q, %d, want %q, %d", p, s, e, want, wrong)
		}
		only := api.Path{Kind: api.PathBox, Box: p.Box}
		want, wrong = "", modelCheck(only, true, false)
		if wrong == api.OK {
			want = strings.TrimSuffix(strings.TrimPrefix(modelWritten(only), "<"), ">")
		}
		if s, e := path.PrintBox(p.Box); s != want || e != wrong {
			t.Errorf("PrintBox(%v): %q, %d, want %q, %d", p.Box, s, e, want, wrong)
		}
	}
	if taken < 1000 {
		t.Errorf("only %d paths that may be", taken)
	}
}

// P9.3: every byte of a local part.
func TestCheckOfEachByte(t *testing.T) {
	for i := range 256 {
		for _, local := range []string{string([]byte{byte(i)}), "a" + string([]byte{byte(i)}), string([]byte{byte(i)}) + " ", "\xc3" + string([]byte{byte(i)}), string([]byte{byte(i)}) + "\xa4"} {
			for _, wide := range []bool{false, true} {
				p := api.Path{Kind: api.PathBox, Box: mailbox(local, "x")}
				if e := path.Check(p, wide); e != modelCheck(p, wide, true) {
					t.Errorf("Check(%q, %v): %d, want %d", local, wide, e, modelCheck(p, wide, true))
				}
			}
		}
	}
}

// P9.3, R5: each error ahead of the next one, without the model.
func TestOrderOfErrors(t *testing.T) {
	p := api.Path{Kind: 4, Route: make([]api.Host, 17), Box: api.Mailbox{Local: strings.Repeat("\xff", 65)}}
	want := func(e api.Errno) {
		t.Helper()
		if got := path.Check(p, false); got != e {
			t.Errorf("Check(%v): %d, want %d", p, got, e)
		}
	}
	for kind := range 3 {
		p.Kind = kind
		want(api.ErrPath)
	}
	p.Kind = api.PathBox
	want(api.ErrRoute)
	p.Route = p.Route[:16]
	want(api.ErrRoute)
	for i := range 16 {
		want(api.ErrRoute)
		p.Route[i] = name(strings.Repeat("a", 256))
	}
	want(api.ErrDomain)
	p.Route[0] = name("-")
	want(api.ErrLabel)
	for i := range 16 {
		p.Route[i] = name(strings.Repeat("a", 20))
	}
	want(api.ErrLocal)
	p.Box.Local = "\xff\x7f"
	want(api.ErrLocal)
	p.Box.Local = strings.Repeat("\xff", 64)
	want(api.ErrWide)
	p.Box.Local = "a"
	want(api.ErrArg)
	p.Box.Host = name("")
	want(api.ErrLabel)
	p.Box.Host = name("x")
	want(api.ErrPath)
	p.Route = p.Route[:11]
	want(api.OK)
}

// lengthened is a path that is written in n bytes.
func lengthened(n int) api.Path {
	p := api.Path{Kind: api.PathBox, Route: names(strings.Repeat("r.", 60)+"r", "s"), Box: mailbox("a b", "x")}
	s, _ := path.Print(p)
	more := n - len(s)
	p.Route[1].Name += strings.Repeat("t", more/2) + "." + strings.Repeat("u", more-more/2-1)
	return p
}

// P9.3, P9.4: paths of 256 and 257 bytes as they are written.
func TestLengthAsWritten(t *testing.T) {
	if s, e := path.Print(lengthened(256)); len(s) != 256 || e != api.OK || path.Check(lengthened(256), false) != api.OK {
		t.Errorf("256 bytes: %d, %q", e, s)
	}
	for n := 257; n < 260; n++ {
		if s, e := path.Print(lengthened(n)); s != "" || e != api.ErrPath || path.Check(lengthened(n), true) != api.ErrPath {
			t.Errorf("%d bytes: %d, %q", n, e, s)
		}
	}
	m := mailbox(strings.Repeat("a", 64), strings.Repeat(strings.Repeat("h", 63)+".", 4)[:255])
	wantPrintBox(t, m, m.Local+"@"+m.Host.Name)
	if s, e := path.Print(api.Path{Kind: api.PathBox, Box: m}); s != "" || e != api.ErrPath {
		t.Errorf("Print of a mailbox of 320 bytes: %q, %d", s, e)
	}
}

// P9.4, without the model.
func TestPrint(t *testing.T) {
	wantPrint(t, api.Path{Kind: api.PathNull}, "<>")
	wantPrint(t, api.Path{Kind: api.PathNull, Route: []api.Host{}}, "<>")
	wantPrint(t, api.Path{Kind: api.PathMaster}, "<Postmaster>")
	wantPrint(t, boxPath("postmaster", "X"), "<postmaster@X>")
	wantPrint(t, boxPath("a", "b", "c"), "<@c:a@b>")
	wantPrint(t, boxPath("a", "b", "c", "d.e"), "<@c,@d.e:a@b>")
	wantPrint(t, boxPath("\xc3\xa4", "\xc3\xbc", "\xc3\xbc"), "<@\xc3\xbc:\xc3\xa4@\xc3\xbc>")
	wantPrint(t, api.Path{Kind: api.PathBox, Box: api.Mailbox{Local: "a", Host: fourth(1, 2, 3, 4)}}, "<a@[1.2.3.4]>")
	for local, want := range map[string]string{
		"": `""`, "a": "a", "a.b": "a.b", "a..b": `"a..b"`, ".a": `".a"`, "a.": `"a."`, "a b": `"a b"`, `a"b`: `"a\"b"`, `a\b`: `"a\\b"`, `\"`: `"\\\""`, "a@b": `"a@b"`, "\xc3\xa4.\xc3\xa4": "\xc3\xa4.\xc3\xa4", "\xc3\xa4 ": "\"\xc3\xa4 \"",
	} {
		wantPrint(t, boxPath(local, "x"), "<"+want+"@x>")
		wantPrintBox(t, mailbox(local, "x"), want+"@x")
	}
}

// P9.5, R1, R8
func TestSame(t *testing.T) {
	master := func(s string) bool { return strings.EqualFold(s, "postmaster") && len(s) == 10 }
	somes := []string{"", "a", "A", "ann", "Ann", "postmaster", "Postmaster", "POSTMASTER", "postmaste", "postmasters", "po\xc5\xbftmaster", "\xff", "\xc3\xa4", "a b", "\x00"}
	for _, h := range hostsOf() {
		for _, k := range hostsOf() {
			for _, a := range somes {
				for _, b := range somes {
					m, n := api.Mailbox{Local: a, Host: h}, api.Mailbox{Local: b, Host: k}
					want := domain.Same(h, k) && (a == b || master(a) && master(b))
					if path.Same(m, n) != want || path.Same(n, m) != want {
						t.Errorf("Same(%v, %v): not %v", m, n, want)
					}
				}
			}
		}
	}
	if path.Same(mailbox("a", ""), mailbox("a", "")) || path.Same(api.Mailbox{}, api.Mailbox{}) {
		t.Error("a mailbox whose host may not be is the same as another")
	}
	if !path.Same(mailbox("\n", "\xc3\xbc"), mailbox("\n", "xn--tda")) {
		t.Error("what the local parts are is looked at")
	}
}

// P9.6: a byte above 127 at each place that counts, whatever the kind.
func TestWide(t *testing.T) {
	for kind := -1; kind <= 5; kind++ {
		for hostKind := -1; hostKind <= 5; hostKind++ {
			p := api.Path{Kind: kind, Route: make([]api.Host, 20), Box: api.Mailbox{Local: "a\x7fb", Host: api.Host{Kind: hostKind, Name: "x\x7f", Addr: [16]byte{0: 255, 15: 128}}}}
			for i := range p.Route {
				p.Route[i] = api.Host{Kind: hostKind, Name: "r", Addr: [16]byte{200}}
			}
			want := func(is bool) {
				t.Helper()
				if path.Wide(p) != is {
					t.Errorf("Wide(%v): not %v", p, is)
				}
			}
			want(false)
			for _, high := range []string{"\x80", "a\xff", "\xc3\xa4b", "a\x80b"} {
				p.Box.Local = high
				want(true)
				p.Box.Local = ""
				p.Box.Host.Name = high
				want(true)
				p.Box.Host.Name = ""
				for i := range p.Route {
					p.Route[i].Name = high
					want(true)
					p.Route[i].Name = "r"
				}
				want(false)
			}
		}
	}
	if path.Wide(api.Path{}) {
		t.Error("Wide of nothing")
	}
}

// P9.7: what Check takes is written and read as it was.
func TestThereAndBack(t *testing.T) {
	seen := 0
	for _, p := range pathsOf() {
		for _, wide := range []bool{false, true} {
			if !sound(p, wide) {
				continue
			}
			seen++
			s, e := path.Print(p)
			if e != api.OK {
				t.Errorf("Print(%v): %d", p, e)
			}
			if p.Kind != api.PathMaster {
				wantPath(t, path.Reverse, s, wide, p, len(s))
			}
			if p.Kind != api.PathNull {
				wantPath(t, path.Forward, s, wide, p, len(s))
			}
			if p.Kind == api.PathBox && len(p.Route) == 0 {
				wantBox(t, s[1:len(s)-1], wide, p.Box)
			}
		}
	}
	if seen < 1000 {
		t.Errorf("only %d paths", seen)
	}
}

// checkBack holds what was read against P9.7 to P9.10.
func checkBack(t *testing.T, read reading, s string, wide bool) {
	t.Helper()
	p, n, spot := read(s, wide)
	if spot.Err != api.OK {
		return
	}
	if !sound(p, wide) {
		t.Errorf("%q: read, and not taken: %v", s, p)
	}
	text, e := path.Print(p)
	spare := 0
	if p.Box.Host.Kind == api.HostV6 {
		spare = 1
	}
	if e != api.OK || len(text) > n+spare {
		t.Errorf("%q: written as %q, %d", s, text, e)
	}
	wantPath(t, read, text, wide, p, len(text))
	for _, behind := range []string{"", ">", "x", " ", "@", "\xff", "]", "\"", ":a@b>"} {
		wantPath(t, read, s[:n]+behind, wide, p, n)
	}
	for i := range n {
		if q, at, spot := read(s[:i], wide); spot.Err == api.OK || at != 0 || !samePath(q, api.Path{}) {
			t.Errorf("%q, cut off at %d: %v, %v", s, i, q, spot)
		}
	}
	if !wide {
		wantPath(t, read, s, true, p, n)
		if path.Wide(p) || !sound(p, true) {
			t.Errorf("%q: read as wide", s)
		}
	}
}

// P9.7 to P9.10: of texts.
func TestReadAndWritten(t *testing.T) {
	r := rand.New(rand.NewSource(19))
	check := func(s string) {
		both(func(read reading) {
			checkBack(t, read, s, false)
			checkBack(t, read, s, true)
		})
	}
	for _, s := range goodPaths() {
		around(s, everyByte(), check)
		check(strings.ToUpper(s))
	}
	for range 40000 {
		check(randomPath(r))
	}
	for _, host := range []string{"[IPv6:0:0:1:2::3:4]", "[IPv6:0:0:1:2:3::4]", "[IPv6:0:0:1:0:0:1:0:0]", "[ipv6:0:0:1:0:0:2::]", "[IPV6:0000:0:0:0:0:0:1.2.3.4]", "[IPv6:FFFF::1.2.3.4]", "[IPv6:0:1::2]"} {
		check("<a@" + host + ">")
	}
}

// P9.10: Check takes a path that is not wide with both alike.
func TestNarrow(t *testing.T) {
	for _, p := range pathsOf() {
		if !path.Wide(p) && path.Check(p, false) != path.Check(p, true) {
			t.Errorf("Check(%v): %d, wide %d", p, path.Check(p, false), path.Check(p, true))
		}
		if path.Wide(p) && sound(p, false) {
			t.Errorf("Check(%v): taken", p)
		}
	}
}

// R3: what is handed in stays as it is, with the room behind its end; a Route that is handed out is memory
// of its own.
func TestMemory(t *testing.T) {
	route := names("a", "b", "c", "d")
	kept := append([]api.Host{}, route...)
	p := api.Path{Kind: api.PathBox, Route: route[:2], Box: mailbox("a b", "x")}
	first, _ := path.Print(p)
	path.Check(p, true)
	path.Wide(p)
	path.PrintBox(p.Box)
	path.Same(p.Box, p.Box)
	if !reflect.DeepEqual(route, kept) {
		t.Errorf("the route was changed: %v", route)
	}
	both(func(read reading) {
		s := "<@a,@b,@c:x@y>"
		one, _, _ := read(s, false)
		two, _, _ := read(s, false)
		for i := range one.Route[:cap(one.Route)] {
			one.Route[:cap(one.Route)][i] = name("changed")
		}
		three, _, _ := read(s, false)
		if want := boxPath("x", "y", "a", "b", "c"); !samePath(two, want) || !samePath(three, want) {
			t.Errorf("routes share memory: %v, %v", two, three)
		}
	})
	if again, _ := path.Print(p); again != first {
		t.Errorf("Print: %q, then %q", first, again)
	}
}
