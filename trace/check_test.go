package trace_test

import (
	"math"
	"slices"
	"strings"
	"testing"

	"posthorn/api"
	"posthorn/domain"
	"posthorn/trace"
)

// domainOf is a domain of n bytes, 1 to 255.
func domainOf(n int) string {
	s := strings.Repeat(xs(63)+".", 4)[:n]
	if strings.HasSuffix(s, ".") {
		s = s[:n-1] + "x"
	}
	// A label of 64 bytes is cut in two.
	return strings.ReplaceAll(s, xs(64), xs(31)+"."+xs(32))
}

// goodHosts are hosts of each kind, narrow and wide, short and long.
func goodHosts() []api.Host {
	return []api.Host{
		name("a"), name("mx.example"), name("A-b.C1"), name("from"), name("by"), name("\u00fc.de"), name("\u20ac"), name(domainOf(255)),
		v4(1, 2, 3, 4), v4(0, 0, 0, 0), v4(255, 255, 255, 255), {Kind: api.HostV6}, v6(0x20, 1), v6(255, 255),
		tag("x:y"), tag("X-1:a;(b)by,\"<@>"), tag("x:" + xs(251)),
	}
}

// badHosts are hosts that may not be, whatever their place. (The zero one is not among them.)
func badHosts() []api.Host {
	long := v4(1, 2, 3, 4)
	long.Addr[4] = 1
	named := v4(1, 2, 3, 4)
	named.Name = "a"
	six := v6(1, 2)
	six.Name = "x"
	addressed := name("a")
	addressed.Addr[15] = 1
	return []api.Host{
		name(""), name("."), name("a."), name(".a"), name("a..b"), name("-a"), name("a-"), name("a_b"), name("a b"), name("a;"), name("(a)"), name("[1.2.3.4]"), name("a\r\n"), name("\xff"), name("\u00fc\xc3"), name(xs(64)), name(domainOf(255) + "x"),
		long, named, six, addressed, tag(""), tag("x"), tag(":y"), tag("x:"), tag("x-:y"), tag("IPv6:::1"), tag("x:y]"), tag("x:y z"), tag("x:\u00fc"), tag("\u00fc:x"), tag("x:" + xs(252)),
		{Name: "a"}, {Addr: [16]byte{1}}, {Kind: -1}, {Kind: 5}, {Kind: 5, Name: "a"}, {Kind: math.MaxInt, Name: "a"}, {Kind: math.MinInt},
	}
}

// goodPaths are paths that For may be, beside the zero one.
func goodPaths() []api.Path {
	routed := box("x", v4(1, 2, 3, 4), "c.example")
	empty := box("x", name("y.example"))
	empty.Route = []api.Host{}
	return []api.Path{
		{Kind: api.PathMaster}, {Kind: api.PathMaster, Route: []api.Host{}}, box("x", name("y.example")), empty, routed, box("x", name("d"), "a.example", "\u00fc.example"), box("x", name("d"), strings.Split("a b c d e f g h i j k l m n o p", " ")...),
		box("", name("y")), box("a b", name("y")), box("a; id 1 for <b>(c", name("y")), box(`"\`, name("y")), box("\u00fc", name("\u20ac.de")), box(".a..b.", tag("x:;(")), box("x", v6(1, 2)), box("Postmaster", name("y")), box("id", name("for")),
		box(xs(64), name(domainOf(189))), box("x", name(domainOf(100)), domainOf(150)), box(strings.Repeat(`"`, 31), name("y")),
	}
}

// badPaths are paths that For may not be.
func badPaths() []api.Path {
	none := box("x", name("y"))
	none.Kind = api.PathNone
	null := box("", api.Host{})
	null.Kind = api.PathNull
	master := box("", name("y"))
	master.Kind = api.PathMaster
	strange := box("x", name("y"))
	strange.Kind = 4
	literal := box("x", name("y"), "a")
	literal.Route[0] = v4(1, 2, 3, 4)
	return []api.Path{
		null, {Kind: api.PathNull, Route: []api.Host{}}, none, master, strange, literal, {Kind: api.PathBox}, {Kind: -1}, {Kind: 4}, {Kind: math.MaxInt}, {Kind: math.MinInt},
		{Route: []api.Host{{}}}, {Route: []api.Host{name("a")}}, {Kind: api.PathMaster, Route: []api.Host{name("a")}}, {Kind: api.PathNull, Route: []api.Host{name("a")}}, {Box: api.Mailbox{Local: "x"}}, {Box: api.Mailbox{Host: name("a")}},
		box("x", api.Host{}), box("x", name("a_b")), box("x", name("\xff")), box("\xff", name("y")), box("a\tb", name("y")), box("a\r\nb", name("y")), box("\x7f", name("y")), box(xs(65), name("y")), box(strings.Repeat(`"`, 32), name("y")), box(xs(64), name(domainOf(190))),
		box("x", name("y"), "a_b"), box("x", name("y"), strings.Split("a b c d e f g h i j k l m n o p q", " ")...), box("x", name(domainOf(101)), domainOf(150)), box("x", name("y"), ""),
	}
}

// P18.1: From and By are any hosts, Peer none or any address literal.
func TestHosts(t *testing.T) {
	for _, h := range goodHosts() {
		if e := domain.Check(h, true); e != api.OK {
			t.Fatalf("%+v is no host: %d", h, e)
		}
		x := whole()
		x.From = h
		wantCheck(t, x, api.OK)
		agreeCheck(t, x)
		x = plain()
		x.By = h
		wantCheck(t, x, api.OK)
		agreeCheck(t, x)
		x.By, x.Peer = name("a"), h
		want := api.OK
		if h.Kind == api.HostName {
			want = api.ErrTrace
		}
		wantCheck(t, x, want)
		agreeCheck(t, x)
	}
	for _, h := range append(badHosts(), api.Host{}) {
		x := whole()
		x.From = h
		wantCheck(t, x, api.ErrTrace)
		agreeCheck(t, x)
		x = whole()
		x.By = h
		wantCheck(t, x, api.ErrTrace)
		agreeCheck(t, x)
		x = whole()
		x.Peer = h
		if h != (api.Host{}) {
			wantCheck(t, x, api.ErrTrace)
		}
		agreeCheck(t, x)
	}
	x := whole()
	x.Peer = api.Host{}
	wantCheck(t, x, api.OK)
}

// P18.1: With has 1 to 16 letters and digits.
func TestWith(t *testing.T) {
	for n := range 40 {
		for _, one := range []string{"E", "9", "-", " "} {
			x := whole()
			x.With = strings.Repeat(one, n)
			want := api.OK
			if n < 1 || n > 16 || one == "-" || one == " " {
				want = api.ErrTrace
			}
			wantCheck(t, x, want)
			agreeCheck(t, x)
		}
	}
	for b := range 256 {
		c := string([]byte{byte(b)})
		x := whole()
		for _, s := range []string{c, "A" + c, c + "1", "ESMTP" + c + "ESMTP", xs(15) + c} {
			x.With = s
			if is := 'a' <= b && b <= 'z' || 'A' <= b && b <= 'Z' || '0' <= b && b <= '9'; is != (agreeCheck(t, x) == api.OK) {
				t.Fatalf("With %q", s)
			}
		}
	}
}

// P18.1: Id has at most 64 bytes of atoms.
func TestId(t *testing.T) {
	for n := range 130 {
		for _, one := range []string{"E", "9", "-", "!", ".", " "} {
			x := whole()
			x.Id = strings.Repeat(one, n)
			want := api.OK
			if n > 64 || n > 0 && (one == "." || one == " ") {
				want = api.ErrTrace
			}
			wantCheck(t, x, want)
			agreeCheck(t, x)
		}
	}
	for b := range 256 {
		c := string([]byte{byte(b)})
		x := plain()
		for _, s := range []string{c, "A" + c, c + "1", "ESMTP" + c + "ESMTP", xs(63) + c} {
			x.Id = s
			is := 'a' <= b && b <= 'z' || 'A' <= b && b <= 'Z' || strings.Contains("0123456789!#$%&'*+-/=?^_`{|}~", c)
			if is != (agreeCheck(t, x) == api.OK) {
				t.Fatalf("Id %q", s)
			}
		}
	}
}

// P18.1: For is none, or a path that mail goes to.
func TestFor(t *testing.T) {
	for _, p := range append(goodPaths(), api.Path{}, api.Path{Route: []api.Host{}}) {
		x := whole()
		x.For = p
		wantCheck(t, x, api.OK)
		agreeCheck(t, x)
		x.Peer, x.Id = api.Host{}, ""
		agreeCheck(t, x)
	}
	for _, p := range append(badPaths(), api.Path{Kind: api.PathNull}) {
		x := whole()
		x.For = p
		wantCheck(t, x, api.ErrTrace)
		agreeCheck(t, x)
	}
}

// wrongTimes are dates that may not be, with what is wrong.
func wrongTimes() (dates []api.Date, wrong []api.Errno) {
	for _, d := range []api.Date{{}, {Year: 2026}, {Year: 2026, Month: 13, Day: 1}, {Year: 2025, Month: 2, Day: 29}, {Year: 10000, Month: 1, Day: 1}, {Year: -1, Month: 1, Day: 1}, {Year: 2026, Month: 1, Day: 1, Hour: 24}, {Year: 2026, Month: 1, Day: 1, Minute: 60}, {Year: 2026, Month: 1, Day: 1, Second: 60}, {Year: 2026, Month: 1, Day: 1, Hour: -1}} {
		dates, wrong = append(dates, d), append(wrong, api.ErrDate)
		d.Zone = 1440
		dates, wrong = append(dates, d), append(wrong, api.ErrDate)
	}
	for _, zone := range []int16{1440, -1440, math.MaxInt16, math.MinInt16} {
		dates, wrong = append(dates, api.Date{Year: 2026, Month: 1, Day: 1, Zone: zone}), append(wrong, api.ErrZone)
	}
	return dates, wrong
}

// P18.1: the time's error is told, but behind that of all others.
func TestTimeAndOrder(t *testing.T) {
	wrong := []func(*api.Trace){
		func(x *api.Trace) { x.From = api.Host{} },
		func(x *api.Trace) { x.By = name("a..b") },
		func(x *api.Trace) { x.Peer = name("a") },
		func(x *api.Trace) { x.Peer = tag("x") },
		func(x *api.Trace) { x.With = "" },
		func(x *api.Trace) { x.With = "E SMTP" },
		func(x *api.Trace) { x.Id = "1.2" },
		func(x *api.Trace) { x.For = api.Path{Kind: api.PathNull} },
		func(x *api.Trace) { x.For = box("\xff", name("a")) },
		func(x *api.Trace) { x.For = box("x", api.Host{}) },
		func(x *api.Trace) { x.For = box("x", name("y"), "a_b") },
	}
	dates, errs := wrongTimes()
	for i, d := range dates {
		for _, x := range []api.Trace{whole(), plain()} {
			x.Time = d
			wantCheck(t, x, errs[i])
			agreeCheck(t, x)
			for _, turn := range wrong {
				y := x
				turn(&y)
				wantCheck(t, y, api.ErrTrace)
				agreeCheck(t, y)
				wantStamp(t, "received:x", y, 0, "", api.ErrTrace)
			}
			wantStamp(t, "received:x", x, 0, "", errs[i])
		}
	}
	for i, one := range wrong {
		for _, other := range wrong[i:] {
			x := whole()
			one(&x)
			other(&x)
			wantCheck(t, x, api.ErrTrace)
			agreeCheck(t, x)
		}
	}
	wantCheck(t, api.Trace{}, api.ErrTrace)
}

// P18.2: each form, with and without Peer, Id and For.
func TestEachForm(t *testing.T) {
	const from, by, time = " from a.example", "\r\n\tby b.example with ESMTP", "; Sun, 15 Nov 2026 04:00:00 +0000"
	for bits := range 8 {
		x, want := plain(), from
		if bits&1 > 0 {
			x.Peer = v6(0x20, 1)
			want += " ([IPv6:2000::1])"
		}
		want += by
		if bits&2 > 0 {
			x.Id = "!17"
			want += " id !17"
		}
		if bits&4 > 0 {
			x.For = api.Path{Kind: api.PathMaster}
			want += "\r\n\tfor <Postmaster>"
		}
		wantPrint(t, x, want+time)
		agreeCheck(t, x)
	}
	x := api.Trace{From: v4(0, 1, 2, 255), Peer: tag("x-y:(z)"), By: name("\u00fc.DE"), With: "8BITMIME1", Id: "a`b", For: box(`a "b"`, tag("t:;"), "C.d", "\u00e9"), Time: api.Date{Year: 1, Month: 1, Day: 1, Second: 9, Zone: -90}}
	wantPrint(t, x, " from [0.1.2.255] ([x-y:(z)])\r\n\tby \u00fc.DE with 8BITMIME1 id a`b\r\n\tfor <@C.d,@\u00e9:\"a \\\"b\\\"\"@[t:;]>; Mon, 1 Jan 0001 00:00:09 -0130")
	agreeCheck(t, x)
}

// P18.2, P18.7: traces of all kinds of parts are printed, and read again.
func TestPrintedAndRead(t *testing.T) {
	peers := slices.DeleteFunc(goodHosts(), func(h api.Host) bool { return h.Kind == api.HostName })
	for _, from := range goodHosts() {
		for _, peer := range append(peers, api.Host{}) {
			for i, to := range append(goodPaths(), api.Path{}) {
				x := api.Trace{From: from, Peer: peer, By: from, With: "X", For: to, Time: api.Date{Year: 9999, Month: 12, Day: 31, Hour: 23, Minute: 59, Second: 59, Zone: 1439}}
				if i%2 > 0 {
					x.Id = "for"
				}
				f, e := trace.Print(x)
				if back, spot := trace.Parse(f); e != api.OK || !same(back, x) || spot != (api.Spot{}) {
					t.Fatalf("%+v: %s, %d, read as %+v, %v", x, short(f.Body), e, back, spot)
				}
			}
		}
	}
}

// P18.10: the longest parts that may be.
func TestLongestField(t *testing.T) {
	long := api.Trace{From: name(domainOf(255)), Peer: tag("x:" + xs(251)), By: name(domainOf(255)), With: xs(16), Id: xs(64), For: box(xs(64), name(domainOf(189))), Time: api.Date{Year: 9999, Month: 12, Day: 31, Hour: 23, Minute: 59, Second: 59, Zone: -1439}}
	var all []api.Trace
	for _, h := range []api.Host{name(domainOf(255)), tag("x:" + xs(251)), name(strings.Repeat("\u00fc", 31) + strings.Repeat("."+strings.Repeat("\u00fc", 31), 3))} {
		for _, p := range goodPaths() {
			x := long
			x.From, x.By, x.For = h, h, p
			all = append(all, x)
		}
	}
	most := 0
	for _, x := range append(all, long) {
		if e := agreeCheck(t, x); e != api.OK {
			t.Fatalf("%+v: %d", x, e)
		}
		b, e := trace.Stamp(nil, x, 1)
		if e != api.OK {
			t.Fatalf("Stamp: %d", e)
		}
		for _, line := range strings.Split(string(b), "\r\n") {
			most = max(most, len(line))
		}
	}
	if most > 998 || most < 500 {
		t.Fatalf("the longest line has %d bytes", most)
	}
}
