package trace_test

import (
	"fmt"
	"slices"
	"strings"
	"testing"

	"posthorn/api"
	"posthorn/trace"
)

// The chapter's section Examples, one by one.

// name is a host that is a domain.
func name(s string) api.Host { return api.Host{Kind: api.HostName, Name: s} }

// v4 is a host that is an address of four bytes.
func v4(a, b, c, d byte) api.Host {
	return api.Host{Kind: api.HostV4, Addr: [16]byte{a, b, c, d}}
}

// v6 is a host that is an address of sixteen bytes, those named and noughts.
func v6(first, last byte) api.Host {
	return api.Host{Kind: api.HostV6, Addr: [16]byte{0: first, 15: last}}
}

// tag is a host that is another literal.
func tag(s string) api.Host { return api.Host{Kind: api.HostTag, Name: s} }

// box is a path to a mailbox, by these hosts.
func box(local string, host api.Host, by ...string) api.Path {
	p := api.Path{Kind: api.PathBox, Box: api.Mailbox{Local: local, Host: host}}
	for _, s := range by {
		p.Route = append(p.Route, name(s))
	}
	return p
}

// whole is the trace of the first example.
func whole() api.Trace {
	t := plain()
	t.Peer, t.Id, t.For = v4(1, 2, 3, 4), "17", box("x", name("y.example"))
	return t
}

// plain is that trace without what may be missing.
func plain() api.Trace {
	return api.Trace{From: name("a.example"), By: name("b.example"), With: "ESMTP", Time: api.Date{Year: 2026, Month: 11, Day: 15, Hour: 4}}
}

const (
	wholeBody = " from a.example ([1.2.3.4])\r\n\tby b.example with ESMTP id 17\r\n\tfor <x@y.example>; Sun, 15 Nov 2026 04:00:00 +0000"
	plainBody = " from a.example\r\n\tby b.example with ESMTP; Sun, 15 Nov 2026 04:00:00 +0000"
)

// bad is an error at a place.
func bad(e api.Errno, at int) api.Spot { return api.Spot{Err: e, At: at} }

// short is a text as a failure tells it; a great one is not told whole.
func short(s string) string { return fmt.Sprintf("%d bytes %.300q", len(s), s) }

// same tells whether two traces are the same; a route may be nil or empty.
func same(a, b api.Trace) bool {
	sides := a.From == b.From && a.Peer == b.Peer && a.By == b.By
	ways := a.With == b.With && a.Id == b.Id && a.Time == b.Time
	return sides && ways && a.For.Kind == b.For.Kind && a.For.Box == b.For.Box && slices.Equal(a.For.Route, b.For.Route)
}

// wantCheck asks Check.
func wantCheck(t *testing.T, x api.Trace, want api.Errno) {
	t.Helper()
	if e := trace.Check(x); e != want {
		t.Fatalf("Check(%+v): %d, want %d", x, e, want)
	}
}

// wantPrint asks for a Print that writes all.
func wantPrint(t *testing.T, x api.Trace, body string) {
	t.Helper()
	if f, e := trace.Print(x); f != (api.Field{Name: "Received", Body: body}) || e != api.OK {
		t.Fatalf("Print(%+v): %q, %d, want %q", x, f, e, body)
	}
}

// wantParse asks for a Parse that reads all.
func wantParse(t *testing.T, body string, want api.Trace) {
	t.Helper()
	if x, spot := trace.Parse(api.Field{Name: "Received", Body: body}); !same(x, want) || spot != (api.Spot{}) {
		t.Fatalf("Parse(%s): %+v, %v, want %+v", short(body), x, spot, want)
	}
}

// wantSpot asks for a Parse that finds what is wrong, and tells nothing else.
func wantSpot(t *testing.T, body string, e api.Errno, at int) {
	t.Helper()
	if x, spot := trace.Parse(api.Field{Name: "Received", Body: body}); !same(x, api.Trace{}) || spot != bad(e, at) {
		t.Fatalf("Parse(%s): %+v, %v, want %v", short(body), x, spot, bad(e, at))
	}
}

// wantHops asks Hops.
func wantHops(t *testing.T, msg string, want int) {
	t.Helper()
	if n := trace.Hops([]byte(msg)); n != want {
		t.Fatalf("Hops(%s): %d, want %d", short(msg), n, want)
	}
}

// wantStamp asks Stamp: with an error nothing else is told.
func wantStamp(t *testing.T, msg string, x api.Trace, most int, want string, e api.Errno) {
	t.Helper()
	if b, got := trace.Stamp([]byte(msg), x, most); string(b) != want || got != e {
		t.Fatalf("Stamp(%s, %+v, %d): %s, %d, want %s, %d", short(msg), x, most, short(string(b)), got, short(want), e)
	}
}

// wantReturn asks Return: with an error nothing else is told.
func wantReturn(t *testing.T, msg string, p api.Path, want string, e api.Errno) {
	t.Helper()
	if b, got := trace.Return([]byte(msg), p); string(b) != want || got != e {
		t.Fatalf("Return(%s, %+v): %s, %d, want %s, %d", short(msg), p, short(string(b)), got, short(want), e)
	}
}

func TestExamplesOfPrint(t *testing.T) {
	wantPrint(t, whole(), wholeBody)
	wantPrint(t, plain(), plainBody)
}

func TestExamplesOfParse(t *testing.T) {
	x := api.Trace{From: name("a.example"), By: name("b.example"), With: "X", Time: api.Date{Year: 2000, Month: 1, Day: 1}}
	wantParse(t, " FROM a.example by b.example with X;1 Jan 2000 00:00 Z", x)
	wantSpot(t, " from a.example (b.example) by c.example with X; 1 Jan 2000 00:00 Z", api.ErrTrace, 17)
	wantSpot(t, " form a", api.ErrTrace, 1)
}

func TestExamplesOfHops(t *testing.T) {
	wantHops(t, "received:x\r\nSubject: y\r\n\r\nReceived: z", 1)
	wantHops(t, "", 0)
	wantHops(t, "Received :x", 0)
}

func TestExamplesOfStamp(t *testing.T) {
	msg := "Subject: y\r\n\r\nx"
	once := "Received:" + wholeBody + "\r\n" + msg
	wantStamp(t, msg, whole(), 1, once, api.OK)
	wantHops(t, once, 1)
	wantStamp(t, once, whole(), 1, "", api.ErrLoop)
	for _, s := range []string{msg, once, ""} {
		wantStamp(t, s, whole(), 0, "", api.ErrLoop)
	}
}

func TestExamplesOfReturn(t *testing.T) {
	for _, msg := range []string{"Subject: y\r\n\r\nx", ""} {
		wantReturn(t, msg, api.Path{Kind: api.PathNull}, "Return-Path: <>\r\n"+msg, api.OK)
		wantReturn(t, msg, api.Path{Kind: api.PathMaster}, "", api.ErrPath)
	}
}

// xs are n letters.
func xs(n int) string { return strings.Repeat("x", n) }
