package trace_test

import (
	"math"
	"math/rand"
	"strings"
	"testing"

	"posthorn/api"
	"posthorn/path"
)

// P18.4: the header's lines of the name, up to the first empty line or the end.
func TestHops(t *testing.T) {
	for _, c := range []struct {
		msg  string
		hops int
	}{
		{"", 0}, {"\r\n", 0}, {"\r\nReceived:", 0}, {"x", 0}, {"Received", 0}, {"Received\r\n", 0}, {"\r", 0}, {"\n", 0},
		{"Received:", 1}, {"Received:\r\n", 1}, {"Received:\r\n\r\n", 1}, {"Received:x\r\n\r\nReceived:x", 1}, {"received:x\r\nRECEIVED:y\r\nrEcEiVeD:z", 3}, {"Received:x\r\n\r\n\r\nReceived:x\r\n", 1}, {"Received: x\r\nReceived: x", 2}, {"Received::", 1},
		{"Received :x", 0}, {"Received\t:x", 0}, {" Received:x", 0}, {"Receive:x", 0}, {"Receivedd:x", 0}, {"X-Received:x", 0}, {"Received;x", 0}, {"Received-SPF:x", 0}, {"Return-Path:x", 0}, {"x\r\nReceived", 0}, {"\"Received\":x", 0}, {"Receive\xef\xbc\xa4:x", 0}, {"Received\r\n:x", 0}, {"Received\r\n :x", 0}, {"Rece\r\nived:x", 0}, {"Received\x00:x", 0},
		{"Received:x\r\n\tReceived:y\r\n Received:z", 1}, {"A:x\r\n\tReceived:y\r\nReceived:z", 1}, {"Received:\r\n \r\nReceived:", 2}, {"Received:\r\n\t\r\n\r\nReceived:", 1},
		{"x\rReceived:y", 0}, {"x\nReceived:y", 0}, {"\nReceived:y", 0}, {"\rReceived:y", 0}, {"x\n\nReceived:y", 0}, {"Received:x\n\nReceived:y", 1}, {"Received:x\n\n\r\nReceived:y", 2}, {"Received:x\r\r\nReceived:y", 2}, {"x\n\r\nReceived:y", 1}, {"x\r\n\nReceived:y", 0}, {"x\r\n\rReceived:y", 0}, {"x\r\n\r\r\nReceived:y", 1}, {"x\r\n\n\r\nReceived:y", 1}, {"Received:\rReceived:\nReceived:", 1}, {"\r\r\nReceived:x", 1}, {"Received:x\r", 1}, {"Received:x\r\n\r", 1}, {"Received:x\r\n\n\r\n\r\nReceived:", 1},
		{"no field at all\r\n\xff\xfe\r\n:\r\nReceived:x", 1}, {"Subject: y\r\nReceived:x\r\nFrom: z\r\nReceived:x\r\n\r\n", 2}, {strings.Repeat("x", 5000) + "\r\nReceived:" + strings.Repeat("x", 5000), 1}, {strings.Repeat("Received:\r\n", 5000), 5000}, {strings.Repeat("\r\n", 5000) + "Received:", 0}, {strings.Repeat("x\r\n", 5000) + "received:", 1},
	} {
		wantHops(t, c.msg, c.hops)
		agreeMessage(t, c.msg)
	}
}

// P18.4: all short messages, and every byte at every place of others.
func TestHopsOfAllMessages(t *testing.T) {
	hops := map[int]int{}
	eachText([]string{"\r", "\n", "\r\n", "Received", "received:", " ", ":", "x"}, 5, func(s string) { hops[agreeMessage(t, s)]++ })
	eachText([]string{"\r", "\n", "RECEIVED:"}, 8, func(s string) { hops[agreeMessage(t, s)]++ })
	if hops[0] < 1000 || hops[1] < 1000 || hops[2] < 100 || hops[3] < 1 {
		t.Fatalf("not all numbers came: %v", hops)
	}
	for _, s := range []string{"Received:\r\nreceived: x\r\n\r\nReceived:", "x\r\nReceived:y\r\n"} {
		for at := range len(s) + 1 {
			agreeMessage(t, s[:at])
			agreeMessage(t, s[at:])
			for b := range 256 {
				c := string([]byte{byte(b)})
				agreeMessage(t, s[:at]+c+s[at:])
				if at < len(s) {
					agreeMessage(t, s[:at]+c+s[at+1:])
				}
			}
		}
	}
	for bits := range 1 << 8 {
		b := []byte("received:")
		for i := range 8 {
			if bits>>i&1 == 1 {
				b[i] -= 32
			}
		}
		wantHops(t, string(b), 1)
	}
}

// P18.9: what stands behind the first empty line, and a Return-Path ahead, changes nothing.
func TestTheHeaderAlone(t *testing.T) {
	behind := []string{"", "x", "Received:x", "\r\nReceived:x\r\n", "\r", "\n", "\r\n\r\n", strings.Repeat("Received: x\r\n", 100), "\xff\x00"}
	for b := range 256 {
		behind = append(behind, string([]byte{byte(b)}))
	}
	random := rand.New(rand.NewSource(189))
	for range 300 {
		head := anyHeader(random)
		n := modelHops(head)
		for _, s := range behind {
			wantHops(t, head+"\r\n"+s, n)
		}
		for _, p := range append(goodPaths(), api.Path{Kind: api.PathNull}) {
			if msg, e := modelReturn(head, p); e == api.OK {
				wantReturn(t, head, p, msg, api.OK)
				wantHops(t, msg, n)
			}
		}
	}
}

// anyHeader are lines of a header, each with its end.
func anyHeader(random *rand.Rand) string {
	lines := []string{"Received: x", "received:", "RECEIVED:\ry", "Received: x\n", "Received :x", "Received", "Subject: x", " Received: x", "\tfolded", "x\ry", "\n", "\r", " ", ":", "\xff\xfe", "Return-Path: <>", "Received-By: x"}
	var b strings.Builder
	for range random.Intn(12) {
		b.WriteString(lines[random.Intn(len(lines))] + "\r\n")
	}
	return b.String()
}

// P18.5: a most below, at and beyond the hops; noughts and below.
func TestMost(t *testing.T) {
	for n := range 30 {
		for _, msg := range []string{strings.Repeat("Received: x\r\n", n), strings.Repeat("Subject: y\r\nreceived: x\r\n", n) + "\r\nReceived: z"} {
			stamped := "Received:" + wholeBody + "\r\n" + msg
			for most := range 35 {
				if n < most {
					wantStamp(t, msg, whole(), most, stamped, api.OK)
				} else {
					wantStamp(t, msg, whole(), most, "", api.ErrLoop)
				}
			}
			for _, most := range []int{0, -1, -n, math.MinInt, math.MinInt + 1} {
				wantStamp(t, msg, whole(), most, "", api.ErrLoop)
			}
			wantStamp(t, msg, whole(), math.MaxInt, stamped, api.OK)
		}
	}
}

// P18.5: of traces of all kinds the field is laid ahead as Print tells it, of any message; what is wrong comes ahead of a loop.
func TestStampAnything(t *testing.T) {
	random := rand.New(rand.NewSource(185))
	stamped, wrong, looped := 0, 0, 0
	for range 5000 {
		x, msg, most := anyTrace(random), anyHeader(random)+anyBytes(random), random.Intn(6)-1
		want, e := modelStamp(msg, x, most)
		wantStamp(t, msg, x, most, want, e)
		switch e {
		case api.OK:
			stamped++
		case api.ErrLoop:
			looped++
		default:
			wrong++
		}
	}
	if stamped < 500 || wrong < 500 || looped < 500 {
		t.Fatalf("%d stamped, %d wrong, %d looped", stamped, wrong, looped)
	}
}

// anyBytes are a few bytes of any kind.
func anyBytes(random *rand.Rand) string {
	b := make([]byte, random.Intn(20))
	for i := range b {
		b[i] = byte(random.Intn(256))
	}
	return string(b)
}

// anyTrace is a trace whose parts may be wrong.
func anyTrace(random *rand.Rand) api.Trace {
	hosts := append(goodHosts(), goodHosts()...)
	hosts = append(append(hosts, api.Host{}), badHosts()...)
	paths := append(append(goodPaths(), api.Path{}, api.Path{Kind: api.PathNull}), badPaths()...)
	dates, _ := wrongTimes()
	x := whole()
	wrong := random.Intn(3) == 0
	pick := func(good int, all int) int {
		if wrong {
			return random.Intn(all)
		}
		return random.Intn(good)
	}
	n := len(goodHosts())
	x.From, x.By, x.Peer = hosts[pick(n, len(hosts))], hosts[pick(n, len(hosts))], hosts[pick(n, len(hosts))]
	if x.Peer.Kind == api.HostName && !wrong {
		x.Peer = api.Host{}
	}
	x.With = []string{"ESMTP", "X", xs(16), "9", "", xs(17), "a b", "\u00e9"}[pick(4, 8)]
	x.Id = []string{"", "17", xs(64), "id", xs(65), "a.b", "\u00e9"}[pick(4, 7)]
	x.For = paths[pick(len(goodPaths())+1, len(paths))]
	if wrong && random.Intn(3) == 0 {
		x.Time = dates[random.Intn(len(dates))]
	}
	return x
}

// P18.1, P18.2, P18.7: any traces.
func TestAnyTraces(t *testing.T) {
	random := rand.New(rand.NewSource(181))
	told := map[api.Errno]int{}
	for range 10000 {
		told[agreeCheck(t, anyTrace(random))]++
	}
	if told[api.OK] < 1000 || told[api.ErrTrace] < 1000 {
		t.Fatalf("not all kinds came: %v", told)
	}
}

// P18.6: every kind of path, and those that path refuses.
func TestReturn(t *testing.T) {
	for _, msg := range []string{"", "\r\n", "Subject: y\r\n\r\nx", "\xff\x00", "Return-Path: <>\r\n"} {
		for _, p := range append(append(goodPaths(), badPaths()...), api.Path{}, api.Path{Kind: api.PathNull}, api.Path{Kind: api.PathNull, Route: []api.Host{}}) {
			want, e := modelReturn(msg, p)
			wantReturn(t, msg, p, want, e)
		}
		wantReturn(t, msg, box("x", name("y.example")), "Return-Path: <x@y.example>\r\n"+msg, api.OK)
		wantReturn(t, msg, box("a b\u00fc", v4(1, 2, 3, 4), "\u00fc.de"), "Return-Path: <@\u00fc.de:\"a b\u00fc\"@[1.2.3.4]>\r\n"+msg, api.OK)
		for kind, e := range map[int]api.Errno{api.PathNone: api.ErrPath, api.PathMaster: api.ErrPath, 4: api.ErrPath, -1: api.ErrPath, math.MaxInt: api.ErrPath} {
			wantReturn(t, msg, api.Path{Kind: kind}, "", e)
			// Whatever else is wrong with it.
			p := box("\xff", name("a_b"), "a_b")
			p.Kind = kind
			wantReturn(t, msg, p, "", e)
		}
		for _, c := range []struct {
			p api.Path
			e api.Errno
		}{
			{api.Path{Kind: api.PathBox}, api.ErrArg}, {api.Path{Kind: api.PathNull, Box: api.Mailbox{Local: "x"}}, api.ErrPath}, {api.Path{Kind: api.PathNull, Route: []api.Host{name("a")}}, api.ErrPath},
			{box("x", name("a_b")), api.ErrLabel}, {box("x", name(domainOf(255)+"x")), api.ErrDomain}, {box("x", tag("x")), api.ErrTag}, {box("a\r\nb", name("y")), api.ErrLocal}, {box(xs(65), name("y")), api.ErrLocal}, {box("\xff", name("y")), api.ErrWide}, {box(xs(64), name(domainOf(190))), api.ErrPath}, {box("x", name("y"), strings.Split("a b c d e f g h i j k l m n o p q", " ")...), api.ErrRoute}, {box("\xff", name("a_b"), ""), api.ErrLabel},
		} {
			if path.Check(c.p, true) != c.e {
				t.Fatalf("%+v: not %d", c.p, c.e)
			}
			wantReturn(t, msg, c.p, "", c.e)
		}
	}
}
