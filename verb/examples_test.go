package verb_test

import (
	"slices"
	"strings"
	"testing"

	"posthorn/api"
	"posthorn/verb"
)

// The chapter's section Examples, row by row.

// alike tells whether two commands are one in each of their fields.
func alike(a, b api.Command) bool {
	if !slices.Equal(a.Params, b.Params) || !slices.Equal(a.Path.Route, b.Path.Route) {
		return false
	}
	return a.Verb == b.Verb && a.Host == b.Host && a.Path.Kind == b.Path.Kind && a.Path.Box == b.Path.Box &&
		a.HasText == b.HasText && a.Text == b.Text && a.Size == b.Size && a.Last == b.Last
}

func wantParse(t *testing.T, line string, want api.Command) {
	t.Helper()
	if c, spot := verb.Parse(line); !alike(c, want) || spot != (api.Spot{}) {
		t.Fatalf("Parse(%q): %+v, %v, want %+v", line, c, spot, want)
	}
}

func wantFault(t *testing.T, line string, e api.Errno, at int) {
	t.Helper()
	if c, spot := verb.Parse(line); !alike(c, api.Command{}) || spot != (api.Spot{Err: e, At: at}) {
		t.Fatalf("Parse(%q): %+v, %v, want %d at %d", line, c, spot, e, at)
	}
}

func wantSyntax(t *testing.T, line string, at int) {
	t.Helper()
	wantFault(t, line, api.ErrSyntax, at)
}

func wantNoVerb(t *testing.T, line string) {
	t.Helper()
	wantFault(t, line, api.ErrVerb, 0)
}

// wantPrint asks Print, and Check, which tells the same error.
func wantPrint(t *testing.T, c api.Command, want string, e api.Errno) {
	t.Helper()
	if line, got := verb.Print(c); line != want || got != e {
		t.Fatalf("Print(%+v): %q, %d, want %q, %d", c, line, got, want, e)
	}
	if got := verb.Check(c); got != e {
		t.Fatalf("Check(%+v): %d, want %d", c, got, e)
	}
}

func name(s string) api.Host { return api.Host{Kind: api.HostName, Name: s} }

func v4(a, b, c, d byte) api.Host {
	return api.Host{Kind: api.HostV4, Addr: [16]byte{a, b, c, d}}
}

func box(local, host string, route ...string) api.Path {
	p := api.Path{Kind: api.PathBox, Box: api.Mailbox{Local: local, Host: name(host)}}
	for _, s := range route {
		p.Route = append(p.Route, name(s))
	}
	return p
}

func null() api.Path { return api.Path{Kind: api.PathNull} }

func master() api.Path { return api.Path{Kind: api.PathMaster} }

// params are parameters, told as they are written.
func params(l ...string) []api.Param {
	var out []api.Param
	for _, s := range l {
		name, value, has := strings.Cut(s, "=")
		out = append(out, api.Param{Name: name, Value: value, Has: has})
	}
	return out
}

func text(v int, s string) api.Command { return api.Command{Verb: v, HasText: true, Text: s} }

// auth is an AUTH without an answer.
func auth(mechanism string) api.Command {
	return api.Command{Verb: api.VerbAuth, Params: []api.Param{{Name: mechanism}}}
}

// answered is an AUTH with an answer.
func answered(mechanism, answer string) api.Command {
	return api.Command{Verb: api.VerbAuth, Params: []api.Param{{Name: mechanism, Has: true, Value: answer}}}
}

func TestExamplesOfNames(t *testing.T) {
	if verb.Name(3) != "MAIL" || verb.Name(0) != "" || verb.Find("ehlo") != 2 || verb.Find("EHLOX") != 0 {
		t.Error("Name, Find")
	}
}

func TestExamplesOfParse(t *testing.T) {
	wantParse(t, "HELO a.example", api.Command{Verb: api.VerbHelo, Host: name("a.example")})
	wantSyntax(t, "helo", 4)
	wantSyntax(t, "EHLO a..b", 7)
	wantParse(t, "EHLO [1.2.3.4]", api.Command{Verb: api.VerbEhlo, Host: v4(1, 2, 3, 4)})

	wantParse(t, "MAIL FROM:<> SIZE=3", api.Command{Verb: api.VerbMail, Path: null(), Params: params("SIZE=3")})
	wantParse(t, "mail from:<a@b>", api.Command{Verb: api.VerbMail, Path: box("a", "b")})
	wantSyntax(t, "MAIL FROM: <a@b>", 10)
	wantSyntax(t, "MAIL FROM:<a@b", 14)
	wantSyntax(t, "MAIL FROM:<a@b>x", 15)

	wantParse(t, "RCPT TO:<Postmaster>", api.Command{Verb: api.VerbRcpt, Path: master()})
	wantSyntax(t, "RCPT TO:<>", 9)
	wantSyntax(t, "RCPT FROM:<a@b>", 5)
	wantSyntax(t, "RCPT", 4)

	wantParse(t, "DATA", api.Command{Verb: api.VerbData})
	wantSyntax(t, "DATA ", 4)
	wantSyntax(t, "QUIT now", 4)

	wantParse(t, "BDAT 0012 last", api.Command{Verb: api.VerbBdat, Size: 12, Last: true})
	wantSyntax(t, "BDAT x", 5)
	wantSyntax(t, "BDAT 1 LASTX", 7)
	wantSyntax(t, "BDAT 1x", 6)
	wantSyntax(t, "BDAT 9223372036854775808", 5)

	wantParse(t, "NOOP", api.Command{Verb: api.VerbNoop})
	wantSyntax(t, "NOOP ", 5)
	wantParse(t, "NOOP  ", text(api.VerbNoop, " "))
	wantSyntax(t, "VRFY", 4)
	wantParse(t, "VRFY ann", text(api.VerbVrfy, "ann"))
	wantSyntax(t, "HELP a\t", 6)

	wantParse(t, "AUTH plain =", answered("PLAIN", ""))
	wantParse(t, "AUTH LOGIN", auth("LOGIN"))
	wantSyntax(t, "AUTH a!", 6)
	wantSyntax(t, "AUTH PLAIN a b", 12)

	wantNoVerb(t, "")
	wantNoVerb(t, " NOOP")
	wantNoVerb(t, "FROB")
	wantNoVerb(t, "MAIL\tFROM:<>")
}

func TestExamplesOfPrint(t *testing.T) {
	wantPrint(t, api.Command{Verb: api.VerbBdat, Size: 12, Last: true}, "BDAT 12 LAST", api.OK)
	wantPrint(t, answered("PLAIN", ""), "AUTH PLAIN =", api.OK)
	wantPrint(t, api.Command{Verb: api.VerbQuit, Size: 1}, "", api.ErrSyntax)
	wantPrint(t, api.Command{Verb: api.VerbNoop, Text: "x"}, "", api.ErrSyntax)
	wantPrint(t, api.Command{Verb: 14}, "", api.ErrVerb)
}
