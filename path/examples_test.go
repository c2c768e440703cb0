package path_test

import (
	"reflect"
	"strings"
	"testing"

	"posthorn/api"
	"posthorn/path"
)

// The chapter's section Examples, row by row.

func name(s string) api.Host { return api.Host{Kind: api.HostName, Name: s} }
func fourth(a, b, c, d byte) api.Host {
	return api.Host{Kind: api.HostV4, Addr: [16]byte{a, b, c, d}}
}

func names(l ...string) []api.Host {
	var hosts []api.Host
	for _, s := range l {
		hosts = append(hosts, name(s))
	}
	return hosts
}

func mailbox(local, host string) api.Mailbox { return api.Mailbox{Local: local, Host: name(host)} }

func boxPath(local, host string, route ...string) api.Path {
	return api.Path{Kind: api.PathBox, Route: names(route...), Box: mailbox(local, host)}
}

// samePath holds paths against one another; a route that is nil and one that is empty are the same (R6).
func samePath(a, b api.Path) bool {
	return a.Kind == b.Kind && a.Box == b.Box && len(a.Route) == len(b.Route) && (len(a.Route) == 0 || reflect.DeepEqual(a.Route, b.Route))
}

// reading is Reverse or Forward.
type reading func(string, bool) (api.Path, int, api.Spot)

func wantPath(t *testing.T, read reading, s string, wide bool, want api.Path, behind int) {
	t.Helper()
	if p, n, spot := read(s, wide); !samePath(p, want) || n != behind || spot != (api.Spot{}) {
		t.Errorf("%q, %v: %v, %d, %v, want %v, %d", s, wide, p, n, spot, want, behind)
	}
}

func wantFault(t *testing.T, read reading, s string, wide bool, e api.Errno, at int) {
	t.Helper()
	if p, n, spot := read(s, wide); !samePath(p, api.Path{}) || n != 0 || spot != (api.Spot{Err: e, At: at}) {
		t.Errorf("%q, %v: %v, %d, %v, want %d at %d", s, wide, p, n, spot, e, at)
	}
}

func wantBox(t *testing.T, s string, wide bool, want api.Mailbox) {
	t.Helper()
	if m, spot := path.Box(s, wide); m != want || spot != (api.Spot{}) {
		t.Errorf("Box(%q, %v): %v, %v, want %v", s, wide, m, spot, want)
	}
}

func wantBoxFault(t *testing.T, s string, wide bool, e api.Errno, at int) {
	t.Helper()
	if m, spot := path.Box(s, wide); m != (api.Mailbox{}) || spot != (api.Spot{Err: e, At: at}) {
		t.Errorf("Box(%q, %v): %v, %v, want %d at %d", s, wide, m, spot, e, at)
	}
}

func wantPrint(t *testing.T, p api.Path, want string) {
	t.Helper()
	if s, e := path.Print(p); s != want || e != api.OK {
		t.Errorf("Print(%v): %q, %d, want %q", p, s, e, want)
	}
}

func wantPrintBox(t *testing.T, m api.Mailbox, want string) {
	t.Helper()
	if s, e := path.PrintBox(m); s != want || e != api.OK {
		t.Errorf("PrintBox(%v): %q, %d, want %q", m, s, e, want)
	}
}

func TestExamplesOfPaths(t *testing.T) {
	wantPath(t, path.Reverse, "<ann@a.example> SIZE=3", false, boxPath("ann", "a.example"), 15)
	wantPath(t, path.Reverse, "<>", false, api.Path{Kind: api.PathNull}, 2)
	wantFault(t, path.Forward, "<>", false, api.ErrLocal, 1)
	wantPath(t, path.Forward, "<postmaster>", false, api.Path{Kind: api.PathMaster}, 12)
	wantFault(t, path.Reverse, "<postmaster>", false, api.ErrPath, 11)
	s := "<@a.example,@b.example:c@d.example>"
	p := boxPath("c", "d.example", "a.example", "b.example")
	wantPath(t, path.Forward, s, false, p, len(s))
	wantPrint(t, p, s)
	wantFault(t, path.Forward, "<@[1.2.3.4]:c@d.example>", false, api.ErrRoute, 2)
	wantFault(t, path.Forward, "<@a.example,@[1.2.3.4]:c@d.example>", false, api.ErrRoute, 13)
}

func TestExamplesOfBoxes(t *testing.T) {
	for _, c := range []struct{ s, local, back string }{
		{`"a b"@x.example`, "a b", `"a b"@x.example`},
		{`"ab"@x.example`, "ab", `ab@x.example`},
		{`"a\@b"@x.example`, "a@b", `"a@b"@x.example`},
		{`""@x.example`, "", `""@x.example`},
	} {
		wantBox(t, c.s, false, mailbox(c.local, "x.example"))
		wantPrintBox(t, mailbox(c.local, "x.example"), c.back)
	}
	wantBoxFault(t, "a..b@x.example", false, api.ErrPath, 1)
	wantBoxFault(t, ".a@x.example", false, api.ErrLocal, 0)
	wantBoxFault(t, "a b@x.example", false, api.ErrPath, 1)
	wantBoxFault(t, `"ab@x.example`, false, api.ErrQuote, 0)
	wantBoxFault(t, "a@", false, api.ErrLabel, 2)
	wantBoxFault(t, strings.Repeat("a", 65)+"@x", false, api.ErrLocal, 0)
	wantBox(t, strings.Repeat("a", 64)+"@x", false, mailbox(strings.Repeat("a", 64), "x"))
	wantBoxFault(t, "\xc8@x", true, api.ErrWide, 0)
	wantBox(t, "\xc3\xa4@x", true, mailbox("\xc3\xa4", "x"))
	wantBoxFault(t, "\xc3\xa4@x", false, api.ErrWide, 0)
}

func TestExamplesOfSame(t *testing.T) {
	for _, c := range []struct {
		a, b api.Mailbox
		want bool
	}{
		{mailbox("ann", "A.example"), mailbox("ann", "a.example"), true},
		{mailbox("Ann", "a.example"), mailbox("ann", "a.example"), false},
		{mailbox("postmaster", "a.example"), mailbox("POSTMASTER", "a.example"), true},
	} {
		if path.Same(c.a, c.b) != c.want {
			t.Errorf("Same(%v, %v): not %v", c.a, c.b, c.want)
		}
	}
}
