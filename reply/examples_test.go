package reply_test

import (
	"slices"
	"testing"

	"posthorn/api"
	"posthorn/reply"
)

// The chapter's section Examples, row by row.

// same tells whether two replies are one in each of their fields.
func same(a, b api.Reply) bool {
	return a.Code == b.Code && a.Status == b.Status && slices.Equal(a.Lines, b.Lines)
}

// of is a reply of any lines.
func of(code int, s api.Status, lines ...string) api.Reply {
	return api.Reply{Code: code, Status: s, Lines: lines}
}

// status is one of these parts, 0 of those that are left out.
func status(parts ...int) api.Status {
	parts = append(parts, 0, 0, 0)
	return api.Status{Class: parts[0], Subject: parts[1], Detail: parts[2]}
}

// wantPrint asks Print, and Check.
func wantPrint(t *testing.T, r api.Reply, want string) {
	t.Helper()
	if b, e := reply.Print(r); string(b) != want || e != api.OK {
		t.Fatalf("Print(%#v): %q, %d, want %q", r, b, e, want)
	}
	if e := reply.Check(r); e != api.OK {
		t.Fatalf("Check(%#v): %d", r, e)
	}
}

// wantNot asks Check, and Print, which tells the same error.
func wantNot(t *testing.T, r api.Reply) {
	t.Helper()
	if e := reply.Check(r); e != api.ErrReply {
		t.Fatalf("Check(%#v): %d", r, e)
	}
	if b, e := reply.Print(r); len(b) != 0 || e != api.ErrReply {
		t.Fatalf("Print(%#v): %q, %d", r, b, e)
	}
}

// reader is one that was fed these pieces.
func reader(t *testing.T, pieces ...string) *reply.Reader {
	t.Helper()
	r := reply.New()
	if r == nil {
		t.Fatal("New is nil")
	}
	for _, s := range pieces {
		wantFeed(t, r, s, api.OK)
	}
	return r
}

func wantFeed(t *testing.T, r *reply.Reader, s string, want api.Errno) {
	t.Helper()
	if e := r.Feed([]byte(s)); e != want {
		t.Fatalf("Feed(%q): %d, want %d", s, e, want)
	}
}

// wantNext asks for these replies, and none behind them.
func wantNext(t *testing.T, r *reply.Reader, want ...api.Reply) {
	t.Helper()
	for _, w := range want {
		if x, ok := r.Next(); !same(x, w) || !ok {
			t.Fatalf("Next: %#v, %v, want %#v", x, ok, w)
		}
	}
	for range 2 {
		if x, ok := r.Next(); !same(x, api.Reply{}) || ok {
			t.Fatalf("Next of none: %#v, %v", x, ok)
		}
	}
}

// wantState asks Err and Held.
func wantState(t *testing.T, r *reply.Reader, e api.Errno, held int) {
	t.Helper()
	if r.Err() != e || r.Held() != held {
		t.Fatalf("Err %d, Held %d, want %d, %d", r.Err(), r.Held(), e, held)
	}
}

func TestExamplesOfPrint(t *testing.T) {
	wantPrint(t, reply.Of(250, status(2, 1, 0), "sender ok"), "250 2.1.0 sender ok\r\n")
	wantPrint(t, of(250, status(), "a.example hello", "PIPELINING"), "250-a.example hello\r\n250 PIPELINING\r\n")
	wantPrint(t, of(250, status(2), "x", ""), "250-2.0.0 x\r\n250 2.0.0 \r\n")
}

func TestExamplesOfCheck(t *testing.T) {
	for _, code := range []int{199, 560, 2500} {
		wantNot(t, reply.Of(code, status(), "x"))
	}
	wantNot(t, reply.Of(354, status(3), "x"))
	wantNot(t, reply.Of(250, status(5), "x"))
	wantNot(t, reply.Of(250, status(), "2.0.0 ok"))
	for _, text := range []string{"5.0.0 ok", "2.0.0ok", "2.00.0 ok"} {
		wantPrint(t, reply.Of(250, status(), text), "250 "+text+"\r\n")
	}
	wantNot(t, of(250, status()))
	wantNot(t, reply.Of(250, status(), "a\rb"))
}

func TestExamplesOfHeld(t *testing.T) {
	r := reader(t, "250-a\r\n250")
	wantNext(t, r)
	wantState(t, r, api.OK, 10)
	wantFeed(t, r, "\r\n", api.OK)
	wantNext(t, r, of(250, status(), "a", ""))
	wantState(t, r, api.OK, 0)
}

func TestExamplesOfErrors(t *testing.T) {
	const other = "250-a\r\n251 b\r\n"
	r := reader(t)
	wantFeed(t, r, other, api.ErrReply)
	wantNext(t, r)

	r = reader(t, other[:9])
	wantState(t, r, api.OK, 9)
	wantFeed(t, r, other[9:10], api.ErrReply)
	wantNext(t, r)

	r = reader(t)
	wantFeed(t, r, "220 x\r\n2x", api.ErrReply)
	wantNext(t, r, of(220, status(), "x"))
	wantState(t, r, api.ErrReply, 0)
}

func TestExamplesOfStatuses(t *testing.T) {
	wantNext(t, reader(t, "250 2.0.0 ok\r\n"), of(250, status(2), "ok"))
	wantNext(t, reader(t, "250-2.0.0 a\r\n250 2.0.1 b\r\n"), of(250, status(), "2.0.0 a", "2.0.1 b"))
	wantNext(t, reader(t, "550 2.0.0 x\r\n"), of(550, status(), "2.0.0 x"))
}
