package path_test

import (
	"math/rand"
	"regexp"
	"strings"
	"testing"

	"posthorn/api"
	"posthorn/domain"
	"posthorn/path"
	"posthorn/runes"
)

// latin is a text of which each rune is a byte of s, so that a pattern may speak of bytes.
func latin(s string) string {
	l := make([]rune, len(s))
	for i := range len(s) {
		l[i] = rune(s[i])
	}
	return string(l)
}

// What stands in a local part, as patterns of the chapter's words.
const (
	atomByte = "[A-Za-z0-9!#$%&'*+/=?^_{|}~`\u0080-\u00ff-]"
	isUnit   = `[ !#-\[\]-~` + "\u0080-\u00ff" + `]|\\[ -~]`
)

var (
	atomRow = regexp.MustCompile("^" + atomByte + "+([.]" + atomByte + "+)*")
	unitRow = regexp.MustCompile("^(" + isUnit + ")*")
	oneUnit = regexp.MustCompile(isUnit)
)

// rowLength is how many bytes of s, from its beginning on, the pattern is.
func rowLength(p *regexp.Regexp, s string) int {
	return len([]rune(p.FindString(latin(s))))
}

// model reads in the chapter's words. Its place stays where the first fault is met.
type model struct {
	s    string
	at   int
	wide bool
	spot api.Spot
}

func (m *model) wrong(e api.Errno, at int) {
	if m.spot.Err == api.OK {
		m.spot = api.Spot{Err: e, At: at}
	}
}

func (m *model) well() bool         { return m.spot.Err == api.OK }
func (m *model) rest() string       { return m.s[m.at:] }
func (m *model) sees(c string) bool { return strings.HasPrefix(m.rest(), c) }

// over goes over a byte that must be there.
func (m *model) over(c string, e api.Errno) {
	if !m.sees(c) {
		m.wrong(e, m.at)
	}
	if m.well() {
		m.at++
	}
}

// asItStands is how many bytes the local part has that stands here, and what it means.
func (m *model) asItStands() (int, string) {
	if !m.sees(`"`) {
		n := rowLength(atomRow, m.rest())
		if n == 0 {
			m.wrong(api.ErrLocal, m.at)
		}
		return n, m.rest()[:n]
	}
	inner := m.rest()[1:]
	n := rowLength(unitRow, inner)
	switch {
	case n == len(inner) || n == len(inner)-1 && inner[n] == '\\':
		m.wrong(api.ErrQuote, m.at)
	case inner[n] != '"':
		m.wrong(api.ErrLocal, m.at+1+n)
	}
	var meant []byte
	for _, unit := range oneUnit.FindAllString(latin(inner[:n]), -1) {
		l := []rune(unit)
		meant = append(meant, byte(l[len(l)-1]))
	}
	return n + 2, string(meant)
}

func (m *model) local() string {
	n, meant := m.asItStands()
	if !m.well() {
		return ""
	}
	stands := m.rest()[:n]
	if n > 64 {
		m.wrong(api.ErrLocal, m.at)
	}
	for i := range n {
		if stands[i] > 127 && !m.wide {
			m.wrong(api.ErrWide, m.at+i)
		}
	}
	if bad := runes.Bad(stands); bad < n {
		m.wrong(api.ErrWide, m.at+bad)
	}
	m.at += n
	return meant
}

func (m *model) host() api.Host {
	if !m.well() {
		return api.Host{}
	}
	n := 0
	if m.sees("[") {
		for n < len(m.rest()) && (n == 0 || m.rest()[n-1] != ']') {
			n++
		}
	} else {
		for n < len(m.rest()) && !strings.Contains("<>,:@ ", m.rest()[n:n+1]) {
			n++
		}
	}
	h, spot := domain.Parse(m.rest()[:n], m.wide)
	if spot.Err != api.OK {
		m.wrong(spot.Err, m.at+spot.At)
	}
	m.at += n
	return h
}

func (m *model) box() api.Mailbox {
	var b api.Mailbox
	if m.well() {
		b.Local = m.local()
		m.over("@", api.ErrPath)
		b.Host = m.host()
	}
	return b
}

func (m *model) route() []api.Host {
	var l []api.Host
	for more := m.sees("@"); more && m.well(); {
		if len(l) == 16 && m.sees("@") {
			m.wrong(api.ErrRoute, m.at)
		}
		m.over("@", api.ErrPath)
		from := m.at
		h := m.host()
		if m.well() && h.Kind != api.HostName {
			m.wrong(api.ErrRoute, from)
		}
		l = append(l, h)
		more = m.well() && !m.sees(":")
		if more {
			m.over(",", api.ErrRoute)
		}
	}
	if len(l) > 0 {
		m.over(":", api.ErrRoute)
	}
	return l
}

// modelPath is what P9.1 says.
func modelPath(s string, wide, forward bool) (api.Path, int, api.Spot) {
	if forward && len(s) > 11 && s[0] == '<' && strings.EqualFold(s[1:11], "postmaster") && s[11] == '>' {
		return api.Path{Kind: api.PathMaster}, 12, api.Spot{}
	}
	if !forward && strings.HasPrefix(s, "<>") {
		return api.Path{Kind: api.PathNull}, 2, api.Spot{}
	}
	m := &model{s: s, wide: wide}
	m.over("<", api.ErrPath)
	p := api.Path{Kind: api.PathBox, Route: m.route()}
	p.Box = m.box()
	m.over(">", api.ErrPath)
	if m.well() && (m.at > 256 || len(modelWritten(p)) > 256) {
		m.wrong(api.ErrPath, 0)
	}
	if !m.well() {
		return api.Path{}, 0, m.spot
	}
	return p, m.at, api.Spot{}
}

// modelBox is what P9.2 says.
func modelBox(s string, wide bool) (api.Mailbox, api.Spot) {
	m := &model{s: s, wide: wide}
	b := m.box()
	if m.at < len(s) {
		m.wrong(api.ErrPath, m.at)
	}
	if !m.well() {
		return api.Mailbox{}, m.spot
	}
	return b, api.Spot{}
}

// modelLocal is how a local part is written.
func modelLocal(s string) string {
	if s != "" && rowLength(atomRow, s) == len(s) {
		return s
	}
	out := `"`
	for i := range len(s) {
		if s[i] == '"' || s[i] == '\\' {
			out += `\`
		}
		out += s[i : i+1]
	}
	return out + `"`
}

// modelWritten is how a path is written.
func modelWritten(p api.Path) string {
	switch p.Kind {
	case api.PathNull:
		return "<>"
	case api.PathMaster:
		return "<Postmaster>"
	}
	out := "<"
	for i, h := range p.Route {
		text, _ := domain.Print(h)
		out += "@" + text
		if i+1 < len(p.Route) {
			out += ","
		} else {
			out += ":"
		}
	}
	text, _ := domain.Print(p.Box.Host)
	return out + modelLocal(p.Box.Local) + "@" + text + ">"
}

// checkRead holds all three readers against the model.
func checkRead(t *testing.T, s string) {
	t.Helper()
	for _, wide := range []bool{false, true} {
		for _, forward := range []bool{false, true} {
			read := path.Reverse
			if forward {
				read = path.Forward
			}
			p, n, spot := read(s, wide)
			want, at, fault := modelPath(s, wide, forward)
			if !samePath(p, want) || n != at || spot != fault {
				t.Errorf("%q, wide %v, forward %v: %v, %d, %v, want %v, %d, %v", s, wide, forward, p, n, spot, want, at, fault)
			}
		}
		m, spot := path.Box(s, wide)
		if want, fault := modelBox(s, wide); m != want || spot != fault {
			t.Errorf("Box(%q, %v): %v, %v, want %v, %v", s, wide, m, spot, want, fault)
		}
	}
}

// rows calls f of all rows of at most so many of the parts.
func rows(parts []string, most int, f func(string)) {
	var more func(s string, left int)
	more = func(s string, left int) {
		f(s)
		if left == 0 {
			return
		}
		for _, p := range parts {
			more(s+p, left-1)
		}
	}
	more("", most)
}

// around calls f of all beginnings of s, and of s with each byte left out, each byte put ahead of each, and
// for each.
func around(s string, bytes string, f func(string)) {
	for i := range len(s) + 1 {
		f(s[:i])
		for j := range len(bytes) {
			f(s[:i] + bytes[j:j+1] + s[i:])
			if i < len(s) {
				f(s[:i] + bytes[j:j+1] + s[i+1:])
			}
		}
		if i < len(s) {
			f(s[:i] + s[i+1:])
		}
	}
}

// everyByte is each byte once.
func everyByte() string {
	b := make([]byte, 256)
	for i := range b {
		b[i] = byte(i)
	}
	return string(b)
}

// goodPaths are paths of all sorts.
func goodPaths() []string {
	return []string{
		"<>", "<Postmaster>", "<pOSTMASTEr>", "<ann@a.example>", "<a.b-c+d@x>", "<\"a b\"@x.example>", "<\"\"@x>", "<\"a\\\"\\\\\\@b\"@x>", "<a@[1.2.3.4]>", "<a@[IPv6:1::2]>", "<a@[x:y>@,z]>",
		"<@a:b@c>", "<@a.b,@c-d,@e:f.g@h>", "<@a,@b:\"c:d>\"@[1.2.3.4]>", "<postmaster@x>", "<\xc3\xa4.\xe2\x82\xac@\xc3\xbc.de>", "<@\xc3\xbc,@b:\"\xf0\x9f\x92\xa9 \"@\xc3\xbc>",
	}
}

// P9.1, P9.2, R1, R4: all short rows of what stands in a path.
func TestShortRows(t *testing.T) {
	all := []string{"<", ">", "@", ",", ":", "a", ".", `"`, `\`, " ", "\xc3", "\xa4", "[", "]", "[1.2.3.4]", "Postmaster", "-", "\x7f", "\x1f", "~"}
	rows(all, 3, func(s string) {
		checkRead(t, s)
		checkRead(t, "<"+s)
		checkRead(t, "<a@"+s)
		checkRead(t, "<@a"+s)
		checkRead(t, `"`+s)
		checkRead(t, "<"+s+"@b>")
		checkRead(t, s+"@b")
	})
	rows([]string{"a", ".", `"`, `\`, "@", ">"}, 6, func(s string) { checkRead(t, "<"+s); checkRead(t, s) })
	rows([]string{"@", "a", ",", ":", ">"}, 7, func(s string) { checkRead(t, "<@"+s) })
}

// P9.1, P9.2, P9.9: every beginning of good paths, each byte in the place of each byte, and more near them.
func TestNearGoodPaths(t *testing.T) {
	for _, s := range goodPaths() {
		around(s, everyByte(), func(s string) { checkRead(t, s) })
		around(s[1:len(s)-1], everyByte(), func(s string) { checkRead(t, s) })
	}
}

// P9.1: PathNull is read by Reverse alone, PathMaster by Forward alone.
func TestShortPaths(t *testing.T) {
	for capitals := range 1 << 10 {
		s := []byte("<postmaster>")
		for i := range 10 {
			if capitals>>i&1 == 1 {
				s[i+1] -= 32
			}
		}
		for _, behind := range []string{"", " ", ">", "@x>", "\xff"} {
			wantPath(t, path.Forward, string(s)+behind, false, api.Path{Kind: api.PathMaster}, 12)
			wantFault(t, path.Reverse, string(s)+behind, false, api.ErrPath, 11)
		}
		for i := range len(s) {
			checkRead(t, string(s[:i]))
		}
	}
	for _, behind := range []string{"", " SIZE=1", ">", "<>", "a", "\x00", "\xff"} {
		wantPath(t, path.Reverse, "<>"+behind, false, api.Path{Kind: api.PathNull}, 2)
		wantFault(t, path.Forward, "<>"+behind, false, api.ErrLocal, 1)
	}
	wantFault(t, path.Forward, "<Postmaster", true, api.ErrPath, 11)
	wantFault(t, path.Forward, "<Postmaster >", true, api.ErrPath, 11)
	wantFault(t, path.Forward, "<\"Postmaster\">", true, api.ErrPath, 13)
	wantFault(t, path.Forward, "<@a:Postmaster>", true, api.ErrPath, 14)
	wantPath(t, path.Forward, "<Postmaster@x>", true, boxPath("Postmaster", "x"), 14)
	wantPath(t, path.Reverse, "<Postmaster@x>", true, boxPath("Postmaster", "x"), 14)
}

// both reads by Reverse and Forward.
func both(f func(reading)) {
	f(path.Reverse)
	f(path.Forward)
}

// P9.1, R5: the faults of paths with their places, without the model.
func TestPlacesInPaths(t *testing.T) {
	for _, c := range []struct {
		s  string
		e  api.Errno
		at int
	}{
		{"", api.ErrPath, 0}, {"a@b", api.ErrPath, 0}, {" <a@b>", api.ErrPath, 0}, {"<", api.ErrLocal, 1}, {"<a", api.ErrPath, 2}, {"<a>", api.ErrPath, 2}, {"<a@", api.ErrLabel, 3}, {"<a@>", api.ErrLabel, 3}, {"<a@b", api.ErrPath, 4},
		{"<a@b<", api.ErrPath, 4}, {"<a@b,", api.ErrPath, 4}, {"<a@b:", api.ErrPath, 4}, {"<a@b@", api.ErrPath, 4}, {"<a@b >", api.ErrPath, 4}, {"<a@b_>", api.ErrLabel, 4}, {"<a@b->", api.ErrLabel, 5}, {"<a@b.>", api.ErrLabel, 5}, {"<a@b]>", api.ErrLabel, 4}, {"<a@b\">", api.ErrLabel, 4},
		{"<@", api.ErrLabel, 2}, {"<@:", api.ErrLabel, 2}, {"<@,", api.ErrLabel, 2}, {"<@a", api.ErrRoute, 3}, {"<@a>", api.ErrRoute, 3}, {"<@a@b>", api.ErrRoute, 3}, {"<@a <", api.ErrRoute, 3}, {"<@a<", api.ErrRoute, 3}, {"<@a,", api.ErrPath, 4}, {"<@a,b:c@d>", api.ErrPath, 4}, {"<@a, @b:c@d>", api.ErrPath, 4}, {"<@a,:c@d>", api.ErrPath, 4}, {"<@a:", api.ErrLocal, 4}, {"<@a:@b:c@d>", api.ErrLocal, 4}, {"<@a:,@b:c@d>", api.ErrLocal, 4}, {"<@a:>", api.ErrLocal, 4},
		{"<@a,@b", api.ErrRoute, 6}, {"<@a,@b.", api.ErrLabel, 7}, {"<@a:c", api.ErrPath, 5}, {"<@a:c@", api.ErrLabel, 6}, {"<@a:c@d", api.ErrPath, 7},
		{"<a@[1.2.3.4>", api.ErrAddr, 12}, {"<a@[1.2.3.4", api.ErrAddr, 11}, {"<a@[1.2.3.4> ]", api.ErrAddr, 11}, {"<a@[>", api.ErrAddr, 5}, {"<a@[", api.ErrAddr, 4}, {"<a@[1.2.3.4]", api.ErrPath, 12}, {"<a@[1.2.3.4]x>", api.ErrPath, 12}, {"<a@[1.2.3.4].x>", api.ErrPath, 12}, {"<a@[1.2.3.256]>", api.ErrAddr, 12}, {"<a@[x:>", api.ErrAddr, 7}, {"<a@[x:]>", api.ErrTag, 6}, {"<a@[x:[]>", api.ErrTag, 6}, {"<a@[" + strings.Repeat("1", 300), api.ErrAddr, 258},
		{"<@[1.2.3.4]:a@b>", api.ErrRoute, 2}, {"<@a,@[IPv6:::1]:a@b>", api.ErrRoute, 5}, {"<@[x:y]:a@b>", api.ErrRoute, 2}, {"<@[1.2.3]:a@b>", api.ErrAddr, 8}, {"<@[1.2.3.4:a@b>", api.ErrAddr, 15}, {"<@[1.2.3.4", api.ErrAddr, 10},
		{"<\"a", api.ErrQuote, 1}, {"<\"a@b>", api.ErrQuote, 1}, {"<\"a\\", api.ErrQuote, 1}, {"<\"a\\\"@b>", api.ErrQuote, 1}, {"<\"a\n\"@b>", api.ErrLocal, 3}, {"<\"a\\\n\"@b>", api.ErrLocal, 3}, {"<\"a\x7f\"@b>", api.ErrLocal, 3}, {"<\"a\"b@c>", api.ErrPath, 4}, {"<\"a\".b@c>", api.ErrPath, 4}, {"<a.\"b\"@c>", api.ErrPath, 2}, {"<a\"b\"@c>", api.ErrPath, 2}, {"<.a@b>", api.ErrLocal, 1}, {"<a.@b>", api.ErrPath, 2}, {"<a..b@c>", api.ErrPath, 2}, {"< a@b>", api.ErrLocal, 1}, {"<a @b>", api.ErrPath, 2},
		{"<@a:\"b", api.ErrQuote, 4}, {"<@a:\"b\x00", api.ErrLocal, 6}, {"<@a:b\xc3\xa4@c>", api.ErrWide, 5}, {"<@\xc3\xa4:b@c>", api.ErrLabel, 2}, {"<a@\xc3\xa4>", api.ErrLabel, 3},
	} {
		both(func(read reading) { wantFault(t, read, c.s, false, c.e, c.at) })
	}
}

// route is a route of so many hosts.
func route(n int) (string, []string) {
	var texts, hosts []string
	for i := range n {
		h := "r" + string(rune('a'+i))
		hosts = append(hosts, h)
		texts = append(texts, "@"+h)
	}
	return strings.Join(texts, ","), hosts
}

// P9.1: routes of 16 and 17 hosts.
func TestLongRoutes(t *testing.T) {
	for n := 1; n <= 16; n++ {
		text, hosts := route(n)
		both(func(read reading) {
			wantPath(t, read, "<"+text+":a@b> x", false, boxPath("a", "b", hosts...), len(text)+6)
			wantFault(t, read, "<"+text+",@:a@b>", false, map[bool]api.Errno{true: api.ErrRoute, false: api.ErrLabel}[n == 16], len(text)+map[bool]int{true: 2, false: 3}[n == 16])
			wantFault(t, read, "<"+text+",a@b>", false, api.ErrPath, len(text)+2)
			wantFault(t, read, "<"+text+",", false, api.ErrPath, len(text)+2)
			wantFault(t, read, "<"+text, false, api.ErrRoute, len(text)+1)
			wantFault(t, read, "<"+text+";", false, api.ErrLabel, len(text)+1)
			wantFault(t, read, "<"+text+" ", false, api.ErrRoute, len(text)+1)
		})
	}
	for n := 17; n <= 20; n++ {
		text, _ := route(n)
		both(func(read reading) { wantFault(t, read, "<"+text+":a@b>", false, api.ErrRoute, 1+16*4) })
	}
}

// P9.1, P9.2: a host goes up to each of these bytes, and no other one.
func TestHostsGoUpTo(t *testing.T) {
	for i := range 256 {
		c := string([]byte{byte(i)})
		up := strings.Contains("<>,:@ ", c)
		s := "<a@b.c" + c + ">"
		switch {
		case c == ">":
			both(func(read reading) { wantPath(t, read, s, false, boxPath("a", "b.c"), 7) })
		case up:
			both(func(read reading) { wantFault(t, read, s, false, api.ErrPath, 6) })
			wantBoxFault(t, "a@b.c"+c, false, api.ErrPath, 5)
		}
		checkRead(t, s)
		checkRead(t, "<@b"+c+"a@c>")
		checkRead(t, "<@b,@b"+c+"a@c>")
		checkRead(t, "a@b"+c)
		checkRead(t, "a@"+c)
		checkRead(t, "a@[1.2.3.4]"+c)
		checkRead(t, "<a@[1.2.3.4]"+c)
		checkRead(t, "<a@[x:"+c+"]>")
	}
}

// pathOf is a path of so many bytes, with its brackets.
func pathOf(n int, tail string) string {
	s := "<@" + strings.Repeat("r", 63) + "." + strings.Repeat("s", 63) + "." + strings.Repeat("t", 30) + ",@"
	fill := []byte(strings.Repeat("u", n-len(s)-len(tail)))
	for i := 40; i+1 < len(fill); i += 41 {
		fill[i] = '.'
	}
	return s + string(fill) + tail
}

// P9.1: paths of 256 and 257 bytes, as they stand there and as they are written.
func TestLengthOfPaths(t *testing.T) {
	both(func(read reading) {
		goes := func(n int, tail string) {
			t.Helper()
			for _, behind := range []string{"", " ", "more", ">"} {
				if p, at, spot := read(pathOf(n, tail)+behind, false); at != n || spot != (api.Spot{}) || len(p.Route) != 2 {
					t.Errorf("%d bytes, %q: %v, %d, %v", n, tail, p, at, spot)
				}
			}
		}
		fails := func(n int, tail string) {
			t.Helper()
			for _, behind := range []string{"", " ", "more", ">"} {
				wantFault(t, read, pathOf(n, tail)+behind, false, api.ErrPath, 0)
			}
		}
		// What would be written shorter counts as it stands there.
		for _, tail := range []string{":a@b>", ":ab@b>", ":\"aaaaaaaaaaa\"@b>", ":\"\\a\"@b>", ":a@[IPv6:0:0:0:0:0:0:0:0]>", ":\"a b\"@[IPv6:1:0:0:2:2:0:0:3]>", ":a@[IPv6:0:0:1:2::3]>"} {
			goes(255, tail)
			goes(256, tail)
			fails(257, tail)
			fails(258, tail)
			fails(300, tail)
		}
		// Of two rows as long as one another the first is left out, though to leave out the second saved more.
		goes(255, ":a@[IPv6:0:0:1:2:3::4]>")
		fails(256, ":a@[IPv6:0:0:1:2:3::4]>")
		// A fault ahead of the end is told first.
		wantFault(t, read, pathOf(300, ":a@b,"), false, api.ErrPath, 299)
		wantFault(t, read, pathOf(300, ":a@b"), false, api.ErrPath, 300)
	})
}

// P9.2: dots at each place.
func TestAtoms(t *testing.T) {
	rows([]string{"a", ".", "b!"}, 7, func(s string) { checkRead(t, s+"@x") })
	for i := range 256 {
		c := string([]byte{byte(i)})
		for _, s := range []string{c, "a" + c, c + "a", "a" + c + "b", "a." + c, c + ".a", "a." + c + ".b"} {
			checkRead(t, s+"@x")
			checkRead(t, s)
		}
	}
}

// P9.2: each byte in quotation marks, and behind a backslash.
func TestQuoted(t *testing.T) {
	for i := range 256 {
		c := string([]byte{byte(i)})
		switch {
		case c == `"`:
			wantBoxFault(t, `"a`+c+`b"@x`, true, api.ErrPath, 3)
		case c == `\`:
			wantBox(t, `"a`+c+`b"@x`, true, mailbox("ab", "x"))
		case i >= 32 && i < 127:
			wantBox(t, `"a`+c+`b"@x`, true, mailbox("a"+c+"b", "x"))
		case i < 128:
			wantBoxFault(t, `"a`+c+`b"@x`, true, api.ErrLocal, 2)
		default:
			wantBoxFault(t, `"a`+c+`b"@x`, true, api.ErrWide, 2)
			wantBoxFault(t, `"a`+c+`b"@x`, false, api.ErrWide, 2)
		}
		if i >= 32 && i < 127 {
			wantBox(t, `"a\`+c+`b"@x`, false, mailbox("a"+c+"b", "x"))
		} else {
			wantBoxFault(t, `"a\`+c+`b"@x`, true, api.ErrLocal, 2)
		}
		for _, s := range []string{c, c + `"`, c + `"@x`, `\` + c, `\` + c + `"@x`, `\\` + c + `"@x`, `a\` + c + "\xc3\xa4" + `"@x`, "\xc3" + c + "\xa4" + `"@x`, "\xc3\xa4" + c, c + "\xc3\xa4" + `"@x`} {
			checkRead(t, `"`+s)
		}
	}
	rows([]string{"a", `\`, `"`, "\x00", "\xc3", "\xa4"}, 5, func(s string) { checkRead(t, `"`+s+`"@x`) })
	wantBoxFault(t, `"`, true, api.ErrQuote, 0)
	wantBoxFault(t, `"\`, true, api.ErrQuote, 0)
	wantBoxFault(t, `"\"`, true, api.ErrQuote, 0)
	wantBoxFault(t, `""`, true, api.ErrPath, 2)
	wantBox(t, `" "@x`, false, mailbox(" ", "x"))
}

// P9.2, R5: which fault of a local part comes first.
func TestOrderOfFaultsOfLocalParts(t *testing.T) {
	long := strings.Repeat("a", 80)
	for _, c := range []struct {
		s  string
		e  api.Errno
		at int
	}{
		{`"` + long + "\x01", api.ErrLocal, 81}, {`"` + "\xff\x01", api.ErrLocal, 2}, {`"` + "\xff", api.ErrQuote, 0}, {`"` + long, api.ErrQuote, 0}, {`"` + long + `"`, api.ErrLocal, 0}, {`"` + long + "\xff" + `"`, api.ErrLocal, 0}, {long + "\xff", api.ErrLocal, 0}, {"\xff" + long, api.ErrLocal, 0},
		{"a\xff", api.ErrWide, 1}, {"a\xff.\xfe@x", api.ErrWide, 1}, {"\xff@", api.ErrWide, 0}, {"\"\xff\" @x", api.ErrWide, 1}, {"aaa\xc3\xa4\xc3\xa4\xc3@x", api.ErrWide, 7}, {"\"\\a\xc3\xa4\xc3\"", api.ErrWide, 5}, {"\"\xc3\\a\"", api.ErrWide, 1}, {"\"\xc3\"\xa4@x", api.ErrWide, 1},
	} {
		wantBoxFault(t, c.s, true, c.e, c.at)
		both(func(read reading) { wantFault(t, read, "<"+c.s, true, c.e, c.at+1) })
	}
	wantBoxFault(t, "aaa\xc3\xa4\xc3\xa4\xc3@x", false, api.ErrWide, 3)
}

// P9.2: 64 and 65 bytes as they stand there, whatever they mean.
func TestLengthOfLocalParts(t *testing.T) {
	for n := 60; n <= 70; n++ {
		for _, part := range []string{"a", "a.", "\xc3\xa4"} {
			s := strings.Repeat(part, 80)[:n-1] + "b"
			checkRead(t, s+"@x")
			checkRead(t, "<"+s+"@x>")
		}
		inner := strings.Repeat("a", n-2)
		if n <= 64 {
			wantBox(t, strings.Repeat("a", n)+"@x", false, mailbox(strings.Repeat("a", n), "x"))
			wantBox(t, `"`+inner+`"@x`, false, mailbox(inner, "x"))
			wantBox(t, `"`+inner[2:]+`\a"@x`, false, mailbox(inner[2:]+"a", "x"))
		} else {
			wantBoxFault(t, strings.Repeat("a", n)+"@x", false, api.ErrLocal, 0)
			wantBoxFault(t, `"`+inner+`"@x`, false, api.ErrLocal, 0)
			wantBoxFault(t, `"`+inner[2:]+`\a"@x`, false, api.ErrLocal, 0)
			both(func(read reading) { wantFault(t, read, `<"`+inner+`"@x>`, false, api.ErrLocal, 1) })
		}
	}
}

// P9.2: Box reads all of the text, and knows no longest path.
func TestWholeBox(t *testing.T) {
	for i := range 256 {
		c := string([]byte{byte(i)})
		wantBoxFault(t, "a@[1.2.3.4]"+c, true, api.ErrPath, 11)
	}
	local := strings.Repeat("a", 64)
	host := strings.Repeat(strings.Repeat("h", 63)+".", 4)[:255]
	wantBox(t, local+"@"+host, false, mailbox(local, host))
	wantBoxFault(t, local+"@"+host+"h", false, api.ErrDomain, 65+255)
	both(func(read reading) { wantFault(t, read, "<"+local+"@"+host+">", false, api.ErrPath, 0) })
	for _, s := range []string{"", "@", "@x", "a", "<a@x>", "Postmaster", "@a:b@c", "<>"} {
		checkRead(t, s)
		if m, spot := path.Box(s, true); spot.Err == api.OK {
			t.Errorf("Box(%q): %v", s, m)
		}
	}
}

// R1: great texts.
func TestGreatTexts(t *testing.T) {
	great := strings.Repeat("a", 1<<20)
	both(func(read reading) {
		wantFault(t, read, "<"+great, false, api.ErrLocal, 1)
		wantFault(t, read, `<"`+great, false, api.ErrQuote, 1)
		wantFault(t, read, `<"`+strings.Repeat(`\\`, 1<<20)+`"@b>`, false, api.ErrLocal, 1)
		wantFault(t, read, "<a@"+great, false, api.ErrDomain, 258)
		wantFault(t, read, "<a@["+great, false, api.ErrAddr, 258)
		wantFault(t, read, "<"+strings.Repeat("@a,", 1<<20), false, api.ErrRoute, 49)
		wantFault(t, read, strings.Repeat("<", 1<<20), false, api.ErrLocal, 1)
		wantPath(t, read, "<a@b>"+great, false, boxPath("a", "b"), 5)
		wantFault(t, read, "<a@>"+great, false, api.ErrLabel, 3)
		wantFault(t, read, "<@,"+great, false, api.ErrLabel, 2)
	})
	wantBoxFault(t, "a."+strings.Repeat("b.", 1<<20), false, api.ErrLocal, 0)
}

// randomPath is a row of pieces of paths.
func randomPath(r *rand.Rand) string {
	pieces := []string{"<", ">", "@", ",", ":", "a", "b.c", ".", `"`, `\`, " ", "\xc3\xa4", "[1.2.3.4]", "[IPv6:::1]", "Postmaster", "x:y", "@a,", "@a:", `"a b"`, "a@b", strings.Repeat("z", 30)}
	s := "<"
	for range r.Intn(12) {
		s += pieces[r.Intn(len(pieces))]
	}
	return s
}

// P9.1, P9.2
func TestRandomTexts(t *testing.T) {
	r := rand.New(rand.NewSource(9))
	for range 40000 {
		checkRead(t, randomPath(r))
	}
}
