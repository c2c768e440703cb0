package param_test

import (
	"slices"
	"strings"
	"testing"

	"posthorn/api"
	"posthorn/param"
)

// The chapter's section Examples, row by row.

// p is a parameter, told as it is written.
func p(s string) api.Param {
	name, value, has := strings.Cut(s, "=")
	return api.Param{Name: name, Value: value, Has: has}
}

func list(l ...string) []api.Param {
	var out []api.Param
	for _, s := range l {
		out = append(out, p(s))
	}
	return out
}

func wantParse(t *testing.T, s string, wide bool, want ...api.Param) {
	t.Helper()
	if l, spot := param.Parse(s, wide); !slices.Equal(l, want) || spot != (api.Spot{}) {
		t.Errorf("Parse(%q, %v): %v, %v, want %v", s, wide, l, spot, want)
	}
}

func wantParseFault(t *testing.T, s string, wide bool, e api.Errno, at int) {
	t.Helper()
	if l, spot := param.Parse(s, wide); len(l) != 0 || spot != (api.Spot{Err: e, At: at}) {
		t.Errorf("Parse(%q, %v): %v, %v, want %d at %d", s, wide, l, spot, e, at)
	}
}

func wantPrint(t *testing.T, l []api.Param, want string, e api.Errno) {
	t.Helper()
	if s, got := param.Print(l); s != want || got != e {
		t.Errorf("Print(%v): %q, %d, want %q, %d", l, s, got, want, e)
	}
}

func wantUnxtext(t *testing.T, s, want string) {
	t.Helper()
	if got, spot := param.Unxtext(s); got != want || spot != (api.Spot{}) {
		t.Errorf("Unxtext(%q): %q, %v, want %q", s, got, spot, want)
	}
}

func wantUnxtextFault(t *testing.T, s string, at int) {
	t.Helper()
	if got, spot := param.Unxtext(s); got != "" || spot != (api.Spot{Err: api.ErrXtext, At: at}) {
		t.Errorf("Unxtext(%q): %q, %v, want ErrXtext at %d", s, got, spot, at)
	}
}

func wantMail(t *testing.T, l []api.Param, want api.MailOpts, e api.Errno) {
	t.Helper()
	if o, got := param.Mail(l); o != want || got != e {
		t.Errorf("Mail(%v): %v, %d, want %v, %d", l, o, got, want, e)
	}
}

func wantRcpt(t *testing.T, l []api.Param, want api.RcptOpts, e api.Errno) {
	t.Helper()
	if o, got := param.Rcpt(l); o != want || got != e {
		t.Errorf("Rcpt(%v): %v, %d, want %v, %d", l, o, got, want, e)
	}
}

func wantOfMail(t *testing.T, o api.MailOpts, want []api.Param, e api.Errno) {
	t.Helper()
	if l, got := param.OfMail(o); !slices.Equal(l, want) || got != e {
		t.Errorf("OfMail(%v): %v, %d, want %v, %d", o, l, got, want, e)
	}
}

func wantOfRcpt(t *testing.T, o api.RcptOpts, want []api.Param, e api.Errno) {
	t.Helper()
	if l, got := param.OfRcpt(o); !slices.Equal(l, want) || got != e {
		t.Errorf("OfRcpt(%v): %v, %d, want %v, %d", o, l, got, want, e)
	}
}

func TestExamplesOfParse(t *testing.T) {
	wantParse(t, "", false)
	wantParse(t, " size=10 SmtpUtf8", false, api.Param{Name: "SIZE", Value: "10", Has: true}, api.Param{Name: "SMTPUTF8"})
	wantParseFault(t, "SIZE=1", false, api.ErrKeyword, 0)
	wantParseFault(t, "  A", false, api.ErrKeyword, 1)
	wantParseFault(t, " A ", false, api.ErrKeyword, 3)
	wantParseFault(t, " -A", false, api.ErrKeyword, 1)
	wantParseFault(t, " A_", false, api.ErrKeyword, 2)
	wantParseFault(t, " A=", false, api.ErrValue, 3)
	wantParseFault(t, " A=b=c", false, api.ErrValue, 4)
	wantParseFault(t, " A= B", false, api.ErrValue, 3)
	wantParseFault(t, " A=é", false, api.ErrValue, 3)
	wantParse(t, " A=é", true, api.Param{Name: "A", Value: "é", Has: true})
	wantParseFault(t, " A=\xc3\x28", true, api.ErrValue, 3)
	wantParseFault(t, strings.Repeat(" A", 17), true, api.ErrFull, 32)
}

func TestExamplesOfPrint(t *testing.T) {
	wantPrint(t, list("SIZE=10", "SMTPUTF8"), " SIZE=10 SMTPUTF8", api.OK)
	wantPrint(t, list("size=1"), "", api.ErrKeyword)
	wantPrint(t, []api.Param{{Name: "A", Has: true}}, "", api.ErrValue)
	wantPrint(t, []api.Param{{Name: "A", Value: "x"}}, "", api.ErrValue)
}

func TestExamplesOfXtext(t *testing.T) {
	if s := param.Xtext("a+b=c d"); s != "a+2Bb+3Dc+20d" {
		t.Errorf("Xtext: %q", s)
	}
	wantUnxtext(t, "a+2Bb", "a+b")
	wantUnxtextFault(t, "a=b", 1)
	wantUnxtextFault(t, "+2b", 2)
	wantUnxtextFault(t, "a+2", 3)
	wantUnxtextFault(t, "a+", 2)
}

func TestExamplesOfMail(t *testing.T) {
	wantMail(t, list("SIZE=007", "BODY=8bitmime", "RET=hdrs", "ENVID=q+2B1"), api.MailOpts{HasSize: true, Size: 7, Body: api.Body8, Ret: api.RetHead, HasId: true, Id: "q+1"}, api.OK)
	wantMail(t, list("FOO", "SIZE=x"), api.MailOpts{}, api.ErrUnknown)
	wantMail(t, list("SIZE=1", "SIZE=x"), api.MailOpts{}, api.ErrTwice)
	wantMail(t, list("SIZE=9223372036854775808"), api.MailOpts{}, api.ErrValue)
	wantMail(t, list("SMTPUTF8=1"), api.MailOpts{}, api.ErrValue)
	wantMail(t, list("BODY=9BIT"), api.MailOpts{}, api.ErrValue)
	wantMail(t, list("RET"), api.MailOpts{}, api.ErrValue)
	wantMail(t, list("AUTH=<>"), api.MailOpts{HasAuth: true}, api.OK)
	wantMail(t, list("AUTH=ann@example"), api.MailOpts{HasAuth: true, Auth: "ann@example"}, api.OK)
	wantMail(t, list("AUTH=ann"), api.MailOpts{}, api.ErrValue)
}

func TestExamplesOfRcpt(t *testing.T) {
	wantRcpt(t, list("NOTIFY=delay,SUCCESS", "ORCPT=rfc822;ann@x+2Ey"), api.RcptOpts{Notify: 10, HasOrig: true, Orig: "rfc822;ann@x.y"}, api.OK)
	for _, s := range []string{"NOTIFY=NEVER,DELAY", "NOTIFY=DELAY,DELAY", "ORCPT=rfc822;", "ORCPT=rfc822", "ORCPT=;a", "ORCPT=rfc822;é"} {
		wantRcpt(t, list(s), api.RcptOpts{}, api.ErrValue)
	}
	wantRcpt(t, list("ORCPT=UTF-8;é@x"), api.RcptOpts{HasOrig: true, Orig: "UTF-8;é@x"}, api.OK)
	wantRcpt(t, list("ORCPT=utf-8;a+20b"), api.RcptOpts{}, api.ErrValue)
	wantOfRcpt(t, api.RcptOpts{Notify: 14}, list("NOTIFY=SUCCESS,FAILURE,DELAY"), api.OK)
	wantOfRcpt(t, api.RcptOpts{Notify: 3}, nil, api.ErrValue)
	wantOfRcpt(t, api.RcptOpts{Notify: 16}, nil, api.ErrValue)
}
