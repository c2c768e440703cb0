package verb_test

import (
	"math"
	"math/rand"
	"regexp"
	"slices"
	"strconv"
	"strings"
	"testing"

	"posthorn/api"
	"posthorn/domain"
	"posthorn/param"
	"posthorn/path"
	"posthorn/verb"
)

var capitalMechanism = regexp.MustCompile(`^[A-Z0-9_-]{1,20}$`)

// modelText tells whether HasText and Text are a text, or, if it may be so, none.
func modelText(c api.Command, mayLack bool) bool {
	if !c.HasText {
		return mayLack && c.Text == ""
	}
	return c.Text != "" && firstBut(c.Text, 32, 255, 127) == len(c.Text)
}

// modelMechanism tells whether parameters are AUTH's one.
func modelMechanism(l []api.Param) bool {
	if len(l) != 1 || !capitalMechanism.MatchString(l[0].Name) {
		return false
	}
	if !l[0].Has {
		return l[0].Value == ""
	}
	return l[0].Value != "=" && firstBut(l[0].Value, 33, 126, 0) == len(l[0].Value)
}

// modelCheck is what P11.3 says, by the fields that a verb uses; each of them is put back to zero, and what is
// left must be nothing but the verb.
func modelCheck(c api.Command) api.Errno {
	if c.Verb < 1 || c.Verb > 13 {
		return api.ErrVerb
	}
	may := true
	_, wrongParams := param.Print(c.Params)
	left := c
	switch verbWords()[c.Verb] {
	case "HELO", "EHLO":
		may = domain.Check(c.Host, false) == api.OK
		left.Host = api.Host{}
	case "MAIL":
		may = path.Check(c.Path, true) == api.OK && c.Path.Kind != api.PathMaster && wrongParams == api.OK
		left.Path, left.Params = api.Path{}, nil
	case "RCPT":
		may = path.Check(c.Path, true) == api.OK && c.Path.Kind != api.PathNull && wrongParams == api.OK
		left.Path, left.Params = api.Path{}, nil
	case "BDAT":
		may = c.Size >= 0
		left.Size, left.Last = 0, false
	case "NOOP", "HELP":
		may = modelText(c, true)
		left.HasText, left.Text = false, ""
	case "VRFY", "EXPN":
		may = modelText(c, false)
		left.HasText, left.Text = false, ""
	case "AUTH":
		may = modelMechanism(c.Params)
		left.Params = nil
	}
	if !may || !alike(left, api.Command{Verb: c.Verb}) {
		return api.ErrSyntax
	}
	return api.OK
}

// modelPrint is what P11.4 says of a command that may be.
func modelPrint(c api.Command) string {
	word := verbWords()[c.Verb]
	host, _ := domain.Print(c.Host)
	where, _ := path.Print(c.Path)
	with, _ := param.Print(c.Params)
	switch {
	case word == "HELO" || word == "EHLO":
		return word + " " + host
	case word == "MAIL":
		return "MAIL FROM:" + where + with
	case word == "RCPT":
		return "RCPT TO:" + where + with
	case word == "BDAT" && c.Last:
		return "BDAT " + strconv.FormatInt(c.Size, 10) + " LAST"
	case word == "BDAT":
		return "BDAT " + strconv.FormatInt(c.Size, 10)
	case word == "AUTH" && c.Params[0].Has && c.Params[0].Value == "":
		return "AUTH " + c.Params[0].Name + " ="
	case word == "AUTH" && c.Params[0].Has:
		return "AUTH " + c.Params[0].Name + " " + c.Params[0].Value
	case word == "AUTH":
		return "AUTH " + c.Params[0].Name
	case c.HasText:
		return word + " " + c.Text
	}
	return word
}

// checkCommand holds Check and Print against the models, and against P11.5.
func checkCommand(t *testing.T, c api.Command) {
	t.Helper()
	e := modelCheck(c)
	if e != api.OK {
		wantPrint(t, c, "", e)
		return
	}
	line := modelPrint(c)
	wantPrint(t, c, line, api.OK)
	wantParse(t, line, c)
}

// good has a command of each verb that may be, in each of its ways.
func good() []api.Command {
	return []api.Command{
		{Verb: 1, Host: name("a.example")}, {Verb: 2, Host: v4(1, 2, 3, 4)},
		{Verb: 3, Path: null()}, {Verb: 3, Path: box("a", "b", "x.y"), Params: params("SIZE=3", "SMTPUTF8")},
		{Verb: 4, Path: master()}, {Verb: 4, Path: box("é", "b"), Params: params("NOTIFY=NEVER")},
		{Verb: 5}, {Verb: 6}, {Verb: 6, Size: 12, Last: true}, {Verb: 7},
		{Verb: 8}, text(8, "x"), text(9, "ann"), text(10, "list"), {Verb: 11}, text(11, "MAIL"), {Verb: 12},
		auth("LOGIN"), answered("PLAIN", ""), answered("CRAM-MD5", "YQ=="),
	}
}

// hosts are some that may be and some that may not.
func hosts() []api.Host {
	label := strings.Repeat("l", 63)
	longest := label + "." + label + "." + label + "." + label
	return []api.Host{
		{}, name("a"), name("A.b-c"), name(label), name(label + "l"), name(longest), name(longest + "x"),
		name(""), name("é"), name("a.é.b"), name("a b"), name("a."), name("-a"), name("[1.2.3.4]"), name("a\x00"), name("a\r\nQUIT"),
		v4(0, 0, 0, 0), v4(255, 255, 255, 255), {Kind: api.HostV4, Addr: [16]byte{15: 1}}, {Kind: api.HostV4, Name: "a"},
		{Kind: api.HostV6}, {Kind: api.HostV6, Addr: [16]byte{1, 15: 1}}, {Kind: api.HostV6, Name: "a"},
		{Kind: api.HostTag, Name: "x:y"}, {Kind: api.HostTag, Name: "x:"}, {Kind: api.HostTag, Name: "IPv6:::1"}, {Kind: api.HostTag, Name: "x:é"}, {Kind: api.HostTag, Name: "x:y]"},
		{Kind: api.HostTag, Name: "x:" + strings.Repeat("y", 251)}, {Kind: api.HostTag, Name: "x:" + strings.Repeat("y", 252)}, {Kind: api.HostTag, Name: "x:y", Addr: [16]byte{1}},
		{Kind: api.HostName, Name: "a", Addr: [16]byte{3: 1}}, {Kind: 5, Name: "a"}, {Kind: -1, Name: "a"}, {Name: "a"}, {Addr: [16]byte{1}},
	}
}

// paths are some that may be and some that may not.
func paths() []api.Path {
	l := []api.Path{
		{}, null(), master(), box("a", "b"), box("a b", "c"), box("", "c"), box("é", "ü"), box("\xff", "b"), box("a\x00", "b"), box("a", ""), box("a\r\n", "b"),
		box("Postmaster", "b"), box("a>", "b"), box("a", "b>"), box("a", "b> A"), box("a", "b", "x"), box("a", "b", "x", "é"), box("a", "b", "x:y"), box("a", "b", ""),
		box("a", "b", strings.Split(strings.Repeat("x", 16), "")...), box("a", "b", strings.Split(strings.Repeat("x", 17), "")...),
		box(strings.Repeat("a", 64), "b"), box(strings.Repeat("a", 65), "b"), box(strings.Repeat("a", 61)+" ", "b"), box(strings.Repeat("a", 62)+" ", "b"),
		box(strings.Repeat("a", 64), strings.Repeat("d.", 94)+"d"), box(strings.Repeat("a", 64), strings.Repeat("d.", 94)+"dd"),
		{Kind: api.PathNull, Route: []api.Host{}}, {Kind: api.PathMaster, Route: []api.Host{}}, {Kind: api.PathNull, Route: []api.Host{name("x")}},
		{Kind: api.PathNull, Box: api.Mailbox{Local: "a"}}, {Kind: api.PathMaster, Box: api.Mailbox{Local: "Postmaster"}}, {Kind: api.PathMaster, Box: api.Mailbox{Host: name("a")}},
		{Kind: 4}, {Kind: -1}, {Kind: 4, Box: box("a", "b").Box}, {Box: box("a", "b").Box}, {Route: []api.Host{name("a")}}, {Route: []api.Host{}},
	}
	for _, h := range hosts() {
		l = append(l, api.Path{Kind: api.PathBox, Box: api.Mailbox{Local: "a", Host: h}}, api.Path{Kind: api.PathBox, Route: []api.Host{h}, Box: api.Mailbox{Local: "a", Host: name("b")}})
	}
	return l
}

// lists are parameters that may be and such that may not.
func lists() [][]api.Param {
	l := [][]api.Param{
		nil, {}, {{}}, params("A"), params("A=b"), params("A", "A"), params("A=b", "C", "D=é"), params("a"), params("A_B"), params("_"), params("-A"), params("A B"), params("A="),
		params("A=b c"), params("A=\xff"), params("A=b=c"), params("A=é"), params("A=\x00"), params("A=\r\nQUIT"), {{Name: "A", Value: "b"}}, {{Value: "b", Has: true}}, {{Has: true}},
		params("PLAIN"), params("PLAIN=="), params("PLAIN==="), params("PLAIN=a="), params("PLAIN=a b"), params("PLAIN=~"), params("PLAIN=\x7f"), params("PLAIN= "), params("PLAIN X"), params("PLAIN ="),
		params("PLAIN", "LOGIN"), params("X_1"), params("É"), params("A!"),
		params(strings.Repeat("A", 20)), params(strings.Repeat("A", 21)), params(strings.Repeat("A", 20) + "=b"), params(strings.Repeat("A", 21) + "=b"), params(strings.Repeat("a", 20)),
		slices.Repeat(params("A"), 16), slices.Repeat(params("A"), 17), slices.Repeat(params("A=b"), 16), slices.Repeat(params("A=b"), 17),
	}
	for i := range 256 {
		b := string([]byte{byte(i)})
		l = append(l, []api.Param{{Name: b}}, []api.Param{{Name: "A" + b}}, []api.Param{{Name: b + "A", Has: true}},
			[]api.Param{{Name: "A", Has: true, Value: b}}, []api.Param{{Name: "A", Has: true, Value: "b" + b}}, []api.Param{{Name: "A", Value: b}})
	}
	return l
}

// texts are some that may be and some that may not.
func texts() []string {
	l := []string{"", " ", "  ", "a b ", "é", "\xff", "a\x00", "\x1f", "\x7fa", "a\r\nQUIT", "FROM:<a@b>", strings.Repeat("x", 5000)}
	for i := range 256 {
		l = append(l, string([]byte{byte(i)}), string([]byte{'a', byte(i)}), string([]byte{byte(i), 'z'}))
	}
	return l
}

// changes are ways to set one field of a command to something.
func changes() []func(*api.Command) {
	var l []func(*api.Command)
	for _, h := range hosts() {
		l = append(l, func(c *api.Command) { c.Host = h })
	}
	for _, p := range paths() {
		l = append(l, func(c *api.Command) { c.Path = p })
	}
	for _, ps := range lists() {
		l = append(l, func(c *api.Command) { c.Params = ps })
	}
	for _, s := range texts() {
		l = append(l, func(c *api.Command) { c.Text = s }, func(c *api.Command) { c.HasText, c.Text = true, s }, func(c *api.Command) { c.HasText, c.Text = false, s })
	}
	for _, n := range []int64{0, 1, -1, 12, math.MaxInt32, 1 << 32, math.MaxInt64, math.MaxInt64 - 1, math.MinInt64, math.MinInt64 + 1} {
		l = append(l, func(c *api.Command) { c.Size = n })
	}
	return append(l, func(c *api.Command) { c.Last = true }, func(c *api.Command) { c.Last = false }, func(c *api.Command) { c.HasText = true }, func(c *api.Command) { c.HasText = false })
}

// P11.3, P11.4, P11.5, R8: every verb with each field that it uses, or does not use, at its edges and beyond.
func TestEachField(t *testing.T) {
	for _, c := range good() {
		if verb.Check(c) != api.OK {
			t.Fatalf("Check(%+v): %d", c, verb.Check(c))
		}
		checkCommand(t, c)
		for _, change := range changes() {
			changed := c
			change(&changed)
			checkCommand(t, changed)
		}
	}
	for v := -1; v <= 15; v++ {
		for _, change := range changes() {
			c := api.Command{Verb: v}
			change(&c)
			checkCommand(t, c)
		}
	}
}

// P11.3, R8: every verb with the fields of each other one.
func TestFieldsOfOthers(t *testing.T) {
	for _, c := range good() {
		for v := -1; v <= 15; v++ {
			changed := c
			changed.Verb = v
			checkCommand(t, changed)
		}
		for _, other := range good() {
			both := c
			if other.Host.Kind != 0 {
				both.Host = other.Host
			}
			if other.Path.Kind != 0 {
				both.Path = other.Path
			}
			if len(other.Params) > 0 {
				both.Params = other.Params
			}
			if other.HasText {
				both.HasText, both.Text = true, other.Text
			}
			both.Size += other.Size
			both.Last = both.Last || other.Last
			checkCommand(t, both)
		}
	}
}

// P11.3, P11.4, R5: there is no verb, whatever else is wrong.
func TestPrintOfNoVerb(t *testing.T) {
	for _, v := range []int{0, 14, -1, 15, math.MaxInt, math.MinInt, 1 << 32, 1<<32 + 5, 256 + 5} {
		wantPrint(t, api.Command{Verb: v}, "", api.ErrVerb)
		wantPrint(t, api.Command{Verb: v, Size: -1, Text: "x", Host: api.Host{Kind: 9}, Params: params("a")}, "", api.ErrVerb)
	}
}

// P11.3, P11.4: without the models.
func TestPrint(t *testing.T) {
	for _, c := range []struct {
		c    api.Command
		want string
	}{
		{api.Command{Verb: 1, Host: name("A.example")}, "HELO A.example"}, {api.Command{Verb: 2, Host: v4(1, 2, 3, 4)}, "EHLO [1.2.3.4]"}, {api.Command{Verb: 2, Host: api.Host{Kind: api.HostV6, Addr: [16]byte{15: 1}}}, "EHLO [IPv6:::1]"}, {api.Command{Verb: 1, Host: api.Host{Kind: api.HostTag, Name: "x:y"}}, "HELO [x:y]"},
		{api.Command{Verb: 3, Path: null()}, "MAIL FROM:<>"}, {api.Command{Verb: 3, Path: box("a b", "c"), Params: params("SIZE=3", "A")}, "MAIL FROM:<\"a b\"@c> SIZE=3 A"},
		{api.Command{Verb: 4, Path: master(), Params: []api.Param{}}, "RCPT TO:<Postmaster>"}, {api.Command{Verb: 4, Path: box("é", "ü", "x.y"), Params: params("A=é")}, "RCPT TO:<@x.y:é@ü> A=é"},
		{api.Command{Verb: 5}, "DATA"}, {api.Command{Verb: 7}, "RSET"}, {api.Command{Verb: 12}, "QUIT"}, {api.Command{Verb: 5, Params: []api.Param{}, Path: api.Path{Route: []api.Host{}}}, "DATA"},
		{api.Command{Verb: 6}, "BDAT 0"}, {api.Command{Verb: 6, Last: true}, "BDAT 0 LAST"}, {api.Command{Verb: 6, Size: 100}, "BDAT 100"}, {api.Command{Verb: 6, Size: math.MaxInt64, Last: true}, "BDAT 9223372036854775807 LAST"},
		{api.Command{Verb: 8}, "NOOP"}, {api.Command{Verb: 11}, "HELP"}, {text(8, " "), "NOOP  "}, {text(9, "ann"), "VRFY ann"}, {text(10, "é\xff"), "EXPN é\xff"}, {text(11, "help me "), "HELP help me "},
		{auth("X_1-"), "AUTH X_1-"}, {answered("PLAIN", ""), "AUTH PLAIN ="}, {answered("PLAIN", "=="), "AUTH PLAIN =="}, {answered("PLAIN", "aB="), "AUTH PLAIN aB="}, {auth(strings.Repeat("A", 20)), "AUTH " + strings.Repeat("A", 20)},
	} {
		wantPrint(t, c.c, c.want, api.OK)
		wantParse(t, c.want, c.c)
	}
	for _, c := range []api.Command{
		{Verb: 1}, {Verb: 1, Host: name("é")}, {Verb: 2, Host: name("a b")}, {Verb: 2, Host: name("a"), HasText: true}, {Verb: 2, Host: name("a"), Text: "x"}, {Verb: 1, Host: name("a"), Path: null()},
		{Verb: 3}, {Verb: 3, Path: master()}, {Verb: 3, Path: null(), Host: name("a")}, {Verb: 3, Path: null(), Last: true}, {Verb: 3, Path: null(), Params: params("a")}, {Verb: 3, Path: null(), Params: slices.Repeat(params("A"), 17)}, {Verb: 3, Path: box("a", "b> A")},
		{Verb: 4}, {Verb: 4, Path: null()}, {Verb: 4, Path: master(), Size: 1}, {Verb: 4, Path: master(), Params: []api.Param{{Name: "A", Value: "b"}}}, {Verb: 4, Path: box("a", "\xff")},
		{Verb: 5, Last: true}, {Verb: 5, HasText: true}, {Verb: 5, Text: "x"}, {Verb: 7, Host: name("a")}, {Verb: 7, Path: null()}, {Verb: 12, Size: 1}, {Verb: 12, Size: -1}, {Verb: 12, Params: params("A")}, {Verb: 12, Host: api.Host{Addr: [16]byte{1}}}, {Verb: 12, Path: api.Path{Route: []api.Host{{}}}},
		{Verb: 6, Size: -1}, {Verb: 6, Size: math.MinInt64}, {Verb: 6, Size: 1, Text: "x"}, {Verb: 6, Params: params("LAST")},
		{Verb: 8, Text: "x"}, {Verb: 8, HasText: true}, {Verb: 9}, {Verb: 9, Text: "x"}, {Verb: 9, HasText: true}, {Verb: 10}, {Verb: 11, HasText: true, Text: "\x1f"}, {Verb: 9, HasText: true, Text: "a\x7f"}, {Verb: 8, HasText: true, Text: "a\r\n"}, {Verb: 8, Last: true},
		{Verb: 13}, {Verb: 13, Params: params("A", "B")}, auth(""), auth("plain"), auth("PLAIn"), auth("A B"), auth("A!"), auth("É"), auth(strings.Repeat("A", 21)), answered("A", "="), answered("A", "a b"), answered("A", " "), answered("A", "é"), answered("A", "\x7f"), answered("", "A"), answered("A B", ""), {Verb: 13, Params: []api.Param{{Name: "A", Value: "b"}}}, {Verb: 13, Params: params("A"), HasText: true, Text: "b"},
	} {
		wantPrint(t, c, "", api.ErrSyntax)
	}
}

// P11.5: there and back, of commands at random, some of them wrong in one field.
func TestCommandsAtRandom(t *testing.T) {
	r := rand.New(rand.NewSource(12))
	all, change := good(), changes()
	for range 50000 {
		c := all[r.Intn(len(all))]
		for range 1 + r.Intn(3) {
			change[r.Intn(len(change))](&c)
		}
		checkCommand(t, c)
		c.Verb = r.Intn(16) - 1
		checkCommand(t, c)
	}
}

// R3: what is handed in stays as it is, with the room behind its end.
func TestHandedIn(t *testing.T) {
	list, route := params("A=b", "C", "d"), []api.Host{name("x"), name("y"), name("z_")}
	p := box("a", "b")
	for n := range 4 {
		p.Route = route[:n]
		for v := range 15 {
			c := api.Command{Verb: v, Path: p, Params: list[:n]}
			verb.Check(c)
			verb.Print(c)
		}
	}
	if !slices.Equal(list, params("A=b", "C", "d")) || !slices.Equal(route, []api.Host{name("x"), name("y"), name("z_")}) {
		t.Fatalf("changed: %v, %v", list, route)
	}
}

// R2, R3: a list that is handed out is memory of its own, spare room too.
func TestHandedOut(t *testing.T) {
	for _, line := range []string{"MAIL FROM:<@x,@y,@z:a@b> A=b C D", "RCPT TO:<@x,@y,@z:a@b> A=b C D", "AUTH PLAIN x", "AUTH LOGIN"} {
		first, _ := verb.Parse(line)
		second, _ := verb.Parse(line)
		kept := second
		kept.Params, kept.Path.Route = slices.Clone(second.Params), slices.Clone(second.Path.Route)
		list, route := first.Params[:cap(first.Params)], first.Path.Route[:cap(first.Path.Route)]
		for i := range list {
			list[i] = api.Param{Name: "changed"}
		}
		for i := range route {
			route[i] = name("changed")
		}
		if len(kept.Params) == 0 || !alike(second, kept) {
			t.Fatalf("%q: what is handed out shares memory: %+v", line, second)
		}
		wantParse(t, line, kept)
	}
}
