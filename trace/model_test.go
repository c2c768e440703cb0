package trace_test

import (
	"fmt"
	"regexp"
	"strings"
	"testing"

	"posthorn/api"
	"posthorn/date"
	"posthorn/domain"
	"posthorn/path"
	"posthorn/trace"
)

// What the chapter says, once more, by other means: slow, and word by word. What lower layers say is asked of them.

var (
	withForm = regexp.MustCompile(`\A[A-Za-z0-9]{1,16}\z`)
	idForm   = regexp.MustCompile("\\A[A-Za-z0-9!#$%&'*+/=?^_`{|}~-]{0,64}\\z")

	gapRow     = regexp.MustCompile(`\A[ \t]+`)
	letterRow  = regexp.MustCompile(`\A[A-Za-z]+`)
	hostRow    = regexp.MustCompile(`\A(?:\[[^\]]*\]?|[^\[ \t();][^ \t();]*)`)
	withRow    = regexp.MustCompile(`\A[A-Za-z0-9]+`)
	idRow      = regexp.MustCompile("\\A[A-Za-z0-9!#$%&'*+/=?^_`{|}~-]+")
	peerBegins = regexp.MustCompile(`\A[ \t]+\(`)
	idBegins   = regexp.MustCompile(`\A([ \t]+(?i:id))(?:[^A-Za-z]|\z)`)
	forBegins  = regexp.MustCompile(`\A([ \t]+(?i:for))(?:[^A-Za-z]|\z)`)

	hopForm = regexp.MustCompile(`\A(?i:received):`)
)

// modelCheck is P18.1.
func modelCheck(x api.Trace) api.Errno {
	none := api.Path{}
	zeroPeer := x.Peer == api.Host{}
	zeroFor := x.For.Kind == none.Kind && len(x.For.Route) == 0 && x.For.Box == none.Box
	switch {
	case domain.Check(x.From, true) != api.OK, domain.Check(x.By, true) != api.OK:
		return api.ErrTrace
	case !zeroPeer && (x.Peer.Kind == api.HostName || domain.Check(x.Peer, true) != api.OK):
		return api.ErrTrace
	case !withForm.MatchString(x.With), !idForm.MatchString(x.Id):
		return api.ErrTrace
	case !zeroFor && (x.For.Kind == api.PathNull || path.Check(x.For, true) != api.OK):
		return api.ErrTrace
	}
	return date.Check(x.Time)
}

// modelPrint is the body that P18.2 tells of a trace that may be.
func modelPrint(x api.Trace) string {
	from, _ := domain.Print(x.From)
	by, _ := domain.Print(x.By)
	when, _ := date.Print(x.Time)
	peer, id, to := "", "", ""
	if s, e := domain.Print(x.Peer); e == api.OK {
		peer = fmt.Sprintf(" (%s)", s)
	}
	if x.Id != "" {
		id = fmt.Sprintf(" id %s", x.Id)
	}
	if s, e := path.Print(x.For); e == api.OK {
		to = fmt.Sprintf("\r\n\tfor %s", s)
	}
	return fmt.Sprintf(" from %s%s\r\n\tby %s with %s%s%s; %s", from, peer, by, x.With, id, to, when)
}

// modelReader is at a place of a text; it gives up by panic.
type modelReader struct {
	text string
	at   int
}

func (m *modelReader) rest() string { return m.text[m.at:] }

// eat goes over what a form finds.
func (m *modelReader) eat(form *regexp.Regexp) string {
	s := form.FindString(m.rest())
	m.at += len(s)
	return s
}

// need gives up, if what had to stand at a place does not.
func (m *modelReader) need(is bool, at int) {
	if !is {
		panic(bad(api.ErrTrace, at))
	}
}

// told gives up, if a lower layer does.
func (m *modelReader) told(spot api.Spot) {
	if spot.Err != api.OK {
		panic(bad(spot.Err, m.at+spot.At))
	}
}

func (m *modelReader) gap() {
	from := m.at
	m.need(m.eat(gapRow) != "", from)
}

func (m *modelReader) word(w string) {
	from := m.at
	m.need(strings.ToLower(m.eat(letterRow)) == w, from)
}

func (m *modelReader) row(form *regexp.Regexp, most int) string {
	from := m.at
	s := m.eat(form)
	m.need(s != "" && len(s) <= most, from)
	return s
}

func (m *modelReader) mark(s string) {
	m.need(strings.HasPrefix(m.rest(), s), m.at)
	m.at += len(s)
}

func (m *modelReader) host() api.Host {
	s := hostRow.FindString(m.rest())
	h, spot := domain.Parse(s, true)
	m.told(spot)
	m.at += len(s)
	return h
}

// behind goes over a gap and a word, if they stand there.
func (m *modelReader) behind(form *regexp.Regexp) bool {
	found := form.FindStringSubmatch(m.rest())
	if found != nil {
		m.at += len(found[1])
	}
	return found != nil
}

// modelParse is P18.3.
func modelParse(f api.Field) (x api.Trace, spot api.Spot) {
	defer func() {
		if what := recover(); what != nil {
			x, spot = api.Trace{}, what.(api.Spot)
		}
	}()
	m := modelReader{text: strings.NewReplacer("\r\n ", " ", "\r\n\t", "\t").Replace(f.Body)}
	m.need(len(f.Name) == 8 && strings.EqualFold(f.Name, "received"), 0)
	m.eat(gapRow)
	m.word("from")
	m.gap()
	x.From = m.host()
	if m.eat(peerBegins) != "" {
		from := m.at
		x.Peer = m.host()
		m.need(x.Peer.Kind != api.HostName, from)
		m.mark(")")
	}
	m.gap()
	m.word("by")
	m.gap()
	x.By = m.host()
	m.gap()
	m.word("with")
	m.gap()
	x.With = m.row(withRow, 16)
	if m.behind(idBegins) {
		m.gap()
		x.Id = m.row(idRow, 64)
	}
	if m.behind(forBegins) {
		m.gap()
		p, behind, spot := path.Forward(m.rest(), true)
		m.told(spot)
		x.For = p
		m.at += behind
	}
	m.eat(gapRow)
	m.mark(";")
	when, spot := date.Parse(m.rest())
	m.told(spot)
	x.Time = when
	return x, api.Spot{}
}

// modelHops is P18.4.
func modelHops(msg string) int {
	n := 0
	for _, line := range strings.Split(msg, "\r\n") {
		if line == "" {
			break
		}
		if hopForm.MatchString(line) {
			n++
		}
	}
	return n
}

// modelStamp is P18.5.
func modelStamp(msg string, x api.Trace, most int) (string, api.Errno) {
	if e := modelCheck(x); e != api.OK {
		return "", e
	}
	if modelHops(msg) >= most {
		return "", api.ErrLoop
	}
	return "Received:" + modelPrint(x) + "\r\n" + msg, api.OK
}

// modelReturn is P18.6.
func modelReturn(msg string, p api.Path) (string, api.Errno) {
	switch e := path.Check(p, true); {
	case p.Kind != api.PathNull && p.Kind != api.PathBox:
		return "", api.ErrPath
	case e != api.OK:
		return "", e
	}
	s, _ := path.Print(p)
	return "Return-Path: " + s + "\r\n" + msg, api.OK
}

// agreeCheck holds a Check and a Print against the model's, and of what may be asks that it is read again (P18.7).
func agreeCheck(t *testing.T, x api.Trace) api.Errno {
	t.Helper()
	e := modelCheck(x)
	wantCheck(t, x, e)
	if e == api.OK {
		wantPrint(t, x, modelPrint(x))
		wantParse(t, modelPrint(x), x)
	} else if f, got := trace.Print(x); f != (api.Field{}) || got != e {
		t.Fatalf("Print(%+v): %q, %d, want %d", x, f, got, e)
	}
	return e
}

// agreeField holds a Parse against the model's, and asks that what is read may be (P18.7).
func agreeField(t *testing.T, f api.Field) api.Spot {
	t.Helper()
	want, spot := modelParse(f)
	x, got := trace.Parse(f)
	if !same(x, want) || got != spot {
		t.Fatalf("Parse(%s, %s): %+v, %v, want %+v, %v", short(f.Name), short(f.Body), x, got, want, spot)
	}
	if spot.Err == api.OK {
		wantCheck(t, x, api.OK)
		wantParse(t, modelPrint(x), x)
	} else if spot.At < 0 || spot.At > len(f.Body) {
		t.Fatalf("Parse(%s): %v is no place of it", short(f.Body), spot)
	}
	return spot
}

// agree is that of a body.
func agree(t *testing.T, body string) api.Spot {
	t.Helper()
	return agreeField(t, api.Field{Name: "Received", Body: body})
}

// agreeMessage holds Hops, Stamp and Return of a message against the model's.
func agreeMessage(t *testing.T, msg string) int {
	t.Helper()
	n := modelHops(msg)
	wantHops(t, msg, n)
	for _, most := range []int{n - 1, n, n + 1} {
		want, e := modelStamp(msg, plain(), most)
		wantStamp(t, msg, plain(), most, want, e)
	}
	for _, p := range []api.Path{{Kind: api.PathNull}, box("x", name("y"))} {
		want, e := modelReturn(msg, p)
		wantReturn(t, msg, p, want, e)
		wantHops(t, want, n)
	}
	return n
}

// eachText goes through all texts of at most so many of the given pieces.
func eachText(pieces []string, most int, do func(string)) {
	var grow func(string, int)
	grow = func(s string, left int) {
		do(s)
		if left == 0 {
			return
		}
		for _, p := range pieces {
			grow(s+p, left-1)
		}
	}
	grow("", most)
}
