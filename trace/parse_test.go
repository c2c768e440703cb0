package trace_test

import (
	"math/rand"
	"strings"
	"testing"

	"posthorn/api"
	"posthorn/trace"
)

const z2000 = " 1 Jan 2000 00:00 Z"

// place is a text without the caret in it, and where that stood.
func place(s string) (string, int) {
	const caret = "\u2038"
	return strings.Replace(s, caret, "", 1), strings.Index(s, caret)
}

// P18.3: the name is Received, in any capitals.
func TestNames(t *testing.T) {
	for bits := range 1 << 8 {
		b := []byte("received")
		for i := range b {
			if bits>>i&1 == 1 {
				b[i] -= 32
			}
		}
		if x, spot := trace.Parse(api.Field{Name: string(b), Body: wholeBody}); !same(x, whole()) || spot != (api.Spot{}) {
			t.Fatalf("Parse of %q: %+v, %v", b, x, spot)
		}
	}
	for _, s := range []string{"", "R", "Receive", "Receivedd", "xReceived", "Received:", "Received ", " Received", "Recei\u0475ed", "Return-Path", "Received\x00", "X-Received", "Rece\x00ved", xs(8)} {
		for _, body := range []string{wholeBody, "", " form a", "from a by b with X;"} {
			x, spot := trace.Parse(api.Field{Name: s, Body: body})
			if !same(x, api.Trace{}) || spot != bad(api.ErrTrace, 0) {
				t.Fatalf("Parse of %q: %+v, %v", s, x, spot)
			}
		}
	}
	for b := range 256 {
		for at := range 8 {
			s := []byte("received")
			s[at] = byte(b)
			agreeField(t, api.Field{Name: string(s), Body: wholeBody})
		}
	}
}

// P18.3: the parts, as they may stand there, each by itself.
func TestParts(t *testing.T) {
	small := api.Trace{From: name("a"), By: name("b"), With: "X", Time: api.Date{Year: 2000, Month: 1, Day: 1}}
	ask := func(body string, turn func(*api.Trace)) {
		t.Helper()
		x := small
		turn(&x)
		wantParse(t, body, x)
		agree(t, body)
	}
	stays := func(*api.Trace) {}
	for _, s := range []string{"from a by b with X;", "FROM a BY b WITH X;", "fRoM a bY b wItH X;", "\t from\ta \tby  b\t\twith \t X\t ;", "\r\n\tfrom\r\n a\r\n\tby\r\n b\r\n with\r\n X\r\n ;\r\n"} {
		ask(s+z2000, stays)
		ask(s+z2000+" (a; b)", stays)
	}
	ask("from a by b with X;1 Jan 00 00:00 gmt", stays)
	ask("from a by b with X;sat, 1 jan 2000 00:00:00 -0000\t(x)\t", stays)
	ask("from [1.2.3.4] ([1.2.3.4]) by [IPv6:1::] with X;"+z2000, func(x *api.Trace) { x.From, x.Peer, x.By = v4(1, 2, 3, 4), v4(1, 2, 3, 4), host6(0, 1) })
	ask("from [ipv6:::1]\t([iPv6:0:0:0:0:0:0:0.0.0.1])\tby [t:(;)] with X;"+z2000, func(x *api.Trace) { x.From, x.Peer, x.By = host6(15, 1), host6(15, 1), tag("t:(;)") })
	ask("from \u00fc.de by \u20ac with X;"+z2000, func(x *api.Trace) { x.From, x.By = name("\u00fc.de"), name("\u20ac") })
	ask("from from by by with with id id for <for@for>;"+z2000, func(x *api.Trace) {
		x.From, x.By, x.With, x.Id, x.For = name("from"), name("by"), "with", "id", box("for", name("for"))
	})
	ask("from by by with with for id for;"+z2000, func(x *api.Trace) { x.From, x.By, x.With, x.Id = name("by"), name("with"), "for", "for" })
	ask("from a by b with id iD for;"+z2000, func(x *api.Trace) { x.With, x.Id = "id", "for" })
	ask("from a by b with 1234567890123456\tID\t"+xs(64)+"\tFOR\t<postMASTER>\t;"+z2000, func(x *api.Trace) {
		x.With, x.Id, x.For = "1234567890123456", xs(64), api.Path{Kind: api.PathMaster}
	})
	ask("from a by b with X for <@c,@\u00fc.d:\"e; \\\">\"@[t:>]>;"+z2000, func(x *api.Trace) { x.For = box(`e; ">`, tag("t:>"), "c", "\u00fc.d") })
	ask("from a by b with X for <\"c\r\n d\r\n  e\"@f>;"+strings.ReplaceAll(z2000, " ", "\r\n "), func(x *api.Trace) { x.For = box("c d  e", name("f")) })
}

// host6 is an address of sixteen bytes with a group that is no nought.
func host6(at int, b byte) api.Host {
	h := api.Host{Kind: api.HostV6}
	h.Addr[at|1] = b
	return h
}

// P18.3: each part missing, cut short or wrong, each with its place.
func TestPlacesOfFaults(t *testing.T) {
	for _, s := range []string{
		"\u2038", " \t\u2038", "\u2038form a", " \u2038fro", "\u2038", "\u2038fromm a", "\u2038froma", "\u2038xfrom a", "\u2038;", "\u2038by b", "\u2038\r\nfrom a", "\u2038\x00from", "\u2038\u017from a", " \u2038\r\nfrom a",
		"from\u2038", "from\u2038;", "from\u2038[1.2.3.4]", "from\u20381 a", "from\u2038-a", "from\u2038\r\na", "from\u2038\v a", "from\u2038\u00a0a", "from\u2038(a)",
		"from a\u2038", "from a\u2038;", "from a\u2038(", "from a\u2038)", "from a\u2038([1.2.3.4]) by b", "from [1.2.3.4]\u2038by b", "from [1.2.3.4]\u2038([1.2.3.4])", "from [1.2.3.4]\u2038]", "from a \u2038", "from a \u2038;", "from a \u2038with", "from a \u2038b", "from a \u2038byy", "from a \u2038b y", "from a \u2038[1.2.3.4] by b", "from a \u2038)", "from a \u2038\r\nby", "from a \u2038from a", "from a \u2038\x00",
		"from a (\u2038b.example) by c", "from a (\u2038from) by c", "from a (\u2038b", "from a (\u2038b [1.2.3.4])", "from a (\u2038by) by b", "from a (\u2038\u00fc) by b",
		"from a ([1.2.3.4]\u2038", "from a ([1.2.3.4]\u2038 )", "from a ([1.2.3.4]\u2038 by b", "from a ([1.2.3.4]\u2038; x)", "from a ([1.2.3.4]\u2038x)", "from a ([x:()]\u2038(", "from a ([x:y]\u2038]",
		"from a ([1.2.3.4])\u2038", "from a ([1.2.3.4])\u2038by b", "from a ([1.2.3.4])\u2038;", "from a ([1.2.3.4]) \u2038([1.2.3.4]) by b", "from a ([1.2.3.4]) \u2038(b) by b", "from a ([1.2.3.4]) \u2038",
		"from a by\u2038", "from a by\u2038;", "from a by\u2038[1.2.3.4]", "from a by\u20381", "from a by b\u2038", "from a by b\u2038;", "from a by b\u2038(", "from a by b \u2038", "from a by b \u2038([1.2.3.4]) with X", "from a by b \u2038wit X", "from a by b \u2038withX", "from a by b \u2038wi-th X", "from a by b \u2038for <x@y>",
		"from a by b with\u2038", "from a by b with\u2038;", "from a by b with\u20381", "from a by b with \u2038", "from a by b with \u2038;" + z2000, "from a by b with \u2038-;", "from a by b with \u2038\u00fc;", "from a by b with \u203812345678901234567;" + z2000, "from a by b with \u2038" + xs(17), "from a by b with \u2038" + xs(5000) + " id 1", "from a by b with \u2038[x]", "from a by b with \u2038<",
		"from a by b with X\u2038", "from a by b with X\u2038-Y;" + z2000, "from a by b with X\u2038.", "from a by b with X\u2038\u00fc", "from a by b with X \u2038", "from a by b with X \u2038X;", "from a by b with X \u2038idx;", "from a by b with X \u2038i d;", "from a by b with X \u2038di 1;", "from a by b with X \u2038([1.2.3.4]);", "from a by b with X \u2038\r\n;", "from a by b with X \u2038from", "from a by b with X \u2038forx <x@y>",
		"from a by b with X id\u2038", "from a by b with X id\u2038;" + z2000, "from a by b with X id\u20381;" + z2000, "from a by b with X id\u2038-1;", "from a by b with X id \u2038", "from a by b with X id \u2038;" + z2000, "from a by b with X id \u2038.1;", "from a by b with X id \u2038<1@2>;", "from a by b with X id \u2038\u00fc;", "from a by b with X id \u2038(1);", "from a by b with X id \u2038" + xs(65) + ";" + z2000, "from a by b with X id \u2038" + xs(5000) + " for <x@y>;",
		"from a by b with X id 1\u2038", "from a by b with X id 1\u2038.2;", "from a by b with X id 1\u2038@b;", "from a by b with X id 1\u2038>;", "from a by b with X id 1 \u2038", "from a by b with X id 1 \u2038id 2;", "from a by b with X id 1 \u20382;", "from a by b with X id 1 \u2038fo <x@y>;", "from a by b with X id 1 \u2038<x@y>;", "from a by b with X id for \u2038<x@y>;",
		"from a by b with X for\u2038", "from a by b with X for\u2038;" + z2000, "from a by b with X for\u2038<x@y>;" + z2000, "from a by b with X for\u20381;", "from a by b with X for <x@y>\u2038", "from a by b with X for <x@y>\u2038z;", "from a by b with X for <x@y>\u2038>;", "from a by b with X for <x@y> \u2038", "from a by b with X for <x@y> \u2038id 1;", "from a by b with X for <x@y> \u2038for <x@y>;", "from a by b with X for <Postmaster>\u2038,", "from a by b with X for <x@y> \u2038(z);",
		"from a by b with X \t\u2038:" + z2000, "from a by b with X \u2038," + z2000, "from a by b with X\u2038\r\n;", "from a by b with X \u20381 Jan 2000 00:00 Z",
	} {
		body, at := place(s)
		wantSpot(t, body, api.ErrTrace, at)
		agree(t, body)
	}
}

// P18.3: the errors of lower layers, each with its place.
func TestPlacesBelow(t *testing.T) {
	for _, c := range []struct {
		e api.Errno
		s string
	}{
		{api.ErrLabel, "from \u2038"}, {api.ErrLabel, "from \u2038;"}, {api.ErrLabel, "from \u2038(b)"}, {api.ErrLabel, "from \u2038) by b"}, {api.ErrLabel, "from a.\u2038.b by c"}, {api.ErrLabel, "from a.\u2038 by c"}, {api.ErrLabel, "from \u2038-a by c"}, {api.ErrLabel, "from a-\u2038(b)"}, {api.ErrLabel, "from a\u2038_b"}, {api.ErrLabel, "from a\u2038[1.2.3.4]"}, {api.ErrLabel, "from a\u2038]"}, {api.ErrLabel, "from a\u2038\r\nby b"}, {api.ErrLabel, "from a\u2038\rx by"}, {api.ErrLabel, "from \u00fc\u2038\xc3 by"}, {api.ErrLabel, "from a\u2038<b>"}, {api.ErrLabel, "from a\u2038,b"}, {api.ErrLabel, "from a\u2038:b"}, {api.ErrLabel, "from a\u2038@b"}, {api.ErrLabel, "from a\u2038\"b"},
		{api.ErrLabel, "from " + xs(63) + "\u2038x by b"}, {api.ErrLabel, "from " + domainOf(254) + ".\u2038"}, {api.ErrDomain, "from " + domainOf(255) + "\u2038x by b"}, {api.ErrDomain, "from " + domainOf(255) + "\u2038..(_ by b"}, {api.ErrDomain, "from " + strings.Repeat(".", 255) + "\u2038" + xs(5000)},
		{api.ErrAddr, "from [1.2.3.4\u2038"}, {api.ErrAddr, "from [\u2038] by b"}, {api.ErrAddr, "from [1.2.3.25\u20386 by] by b"}, {api.ErrAddr, "from [1.2.3\u2038] by b"}, {api.ErrAddr, "from [1.2.3.4\u2038 ] by b"}, {api.ErrAddr, "from [IPv6:1::2:\u2038:] by"}, {api.ErrAddr, "from [IPv6:\u2038] by"}, {api.ErrAddr, "from [1.2.3.4 by b\u2038"}, {api.ErrAddr, "from [" + xs(254) + "\u2038] by b"}, {api.ErrAddr, "from [" + xs(254) + "\u2038x"},
		{api.ErrTag, "from [x-\u2038:y] by"}, {api.ErrTag, "from [\u2038:y] by"}, {api.ErrTag, "from [x:\u2038] by"}, {api.ErrTag, "from [x:y\u2038 z] by"}, {api.ErrTag, "from [x\u2038\u00fc:y] by"}, {api.ErrTag, "from [x:y\u2038[z] by"},
		{api.ErrLabel, "from a (\u2038) by b"}, {api.ErrLabel, "from a (\u2038 [1.2.3.4]) by b"}, {api.ErrLabel, "from a (\u2038"}, {api.ErrLabel, "from a (\u2038([1.2.3.4]))"}, {api.ErrLabel, "from a (b.\u2038.c) by"}, {api.ErrLabel, "from a (\u2038;)"}, {api.ErrLabel, "from a (1\u2038,2)"}, {api.ErrDomain, "from a (" + domainOf(255) + "\u2038x)"},
		{api.ErrAddr, "from a ([1.2.3.4) by b\u2038"}, {api.ErrAddr, "from a ([1.2.3\u2038]) by b"}, {api.ErrAddr, "from a ([1.2.3.4\u2038)]"}, {api.ErrAddr, "from a ([1.2.3.4\u2038) by [5.6.7.8] with X"}, {api.ErrTag, "from a ([x:y\u2038\\]) by b"}, {api.ErrAddr, "from a ([IPv6:::1\u2038) by b]"},
		{api.ErrLabel, "from a by \u2038"}, {api.ErrLabel, "from a by \u2038;"}, {api.ErrLabel, "from a by \u2038([1.2.3.4]) with"}, {api.ErrLabel, "from a ([x:y]) by b\u2038_c with"}, {api.ErrDomain, "from a by " + domainOf(255) + "\u2038x with"}, {api.ErrAddr, "from a by [1.2.3.4 with X;\u2038"}, {api.ErrTag, "from [x:y] by [x:\u2038] with"},
		{api.ErrLocal, "from a by b with X for <\u2038>;"}, {api.ErrLocal, "from a by b with X id 1 for <\u2038" + xs(65) + "@y>;"}, {api.ErrPath, "from a by b with X for \u2038;"}, {api.ErrPath, "from a by b with X for \u2038"}, {api.ErrPath, "from a by b with X for \u2038x@y;"}, {api.ErrPath, "from a by b with X for <x\u2038>;"}, {api.ErrPath, "from a by b with X for <x@y\u2038"}, {api.ErrPath, "from a by b with X for <x@y\u2038 >"}, {api.ErrPath, "from a by b with X for <Postmaster\u2038 >"},
		{api.ErrPath, "from a by b with X for \u2038<" + xs(64) + "@" + domainOf(190) + ">;"}, {api.ErrQuote, "from a by b with X for <\u2038\"x@y>;"}, {api.ErrLocal, "from a by b with X for <\"x\u2038\ty\"@z>"}, {api.ErrLocal, "from a by b with X for <\"x\u2038\r\n\"@z>"}, {api.ErrWide, "from a by b with X for <x\u2038\xff@y>"}, {api.ErrRoute, "from a by b with X for <@a\u2038 @b:x@y>"}, {api.ErrRoute, "from a by b with X for <@\u2038[1.2.3.4]:x@y>"},
		{api.ErrLabel, "from a by b with X for <x@\u2038;>;"}, {api.ErrLabel, "from a by b with X for <x@y\u2038;>;"}, {api.ErrAddr, "from a by b with X for <x@[1.2.3.4>\u2038"},
		{api.ErrDate, "from a by b with X;\u2038"}, {api.ErrDate, "from a by b with X; \u2038"}, {api.ErrDate, "from a by b with X;\u2038;" + z2000}, {api.ErrDate, "from a by b with X; \u203832 Jan 2000 00:00 Z"}, {api.ErrDate, "from a by b with X; Sun, \u20381 Jan 2000 00:00 Z"}, {api.ErrDate, "from a by b with X; 1 Jan 2000 00:00 Z \u2038x"}, {api.ErrDate, "from a by b with X; 1 Jan 2000 00:00 Z \u2038(a(b)"}, {api.ErrDate, "from a by b with X; 1 Jan 2000 \u20381:00 Z"}, {api.ErrDate, "from a by b with X; \u20381 Jan 2000 24:00 Z"}, {api.ErrDate, "from a by b with X;\u2038\r\n1 Jan 2000 00:00 Z"},
		{api.ErrZone, "from a by b with X;1 Jan 2000 00:00 \u2038+2400"}, {api.ErrZone, "from a ([x:y]) by b with X id 1 for <x@y>;1 Jan 2000 00:00 \u2038J"}, {api.ErrZone, "from a by b with X; 1 Jan 2000 00:00 \u2038"}, {api.ErrDate, "from a by b with X; 1 Jan 2000 00:00\u2038"},
	} {
		body, at := place(c.s)
		wantSpot(t, body, c.e, at)
		agree(t, body)
	}
}

// P18.3: places are those of the unfolded body.
func TestPlacesAreUnfolded(t *testing.T) {
	wantSpot(t, "\r\n from\r\n\ta\r\n (b)", api.ErrTrace, 9)
	wantSpot(t, "\r\n\r\n from a", api.ErrTrace, 0)
	wantSpot(t, "from a by b with X\r\n \r\n id\r\n ;", api.ErrTrace, 23)
	wantSpot(t, "from a by b with X for\r\n\t<>;", api.ErrLocal, 24)
	wantSpot(t, "from a by b with X;\r\n 32 Jan 2000 00:00 Z", api.ErrDate, 20)
	wantSpot(t, "from\r\n a..b by c", api.ErrLabel, 7)
}

// P18.3: bodies that are folded anywhere, and with any gaps, are read as without.
func TestFoldedAnywhere(t *testing.T) {
	full := whole()
	full.For = box("a b; c", name("y.example"), "d.example")
	random := rand.New(rand.NewSource(183))
	for _, x := range []api.Trace{whole(), plain(), full} {
		flat := strings.ReplaceAll(modelPrint(x), "\r\n", "")
		for at := range len(flat) {
			if flat[at] == ' ' || flat[at] == '\t' {
				wantParse(t, flat[:at]+"\r\n"+flat[at:], x)
			} else {
				agree(t, flat[:at]+"\r\n"+flat[at:])
			}
			agree(t, flat[:at]+"\r\n "+flat[at:])
		}
		for range 2000 {
			var b strings.Builder
			for at := range len(flat) {
				if blank := flat[at] == ' ' || flat[at] == '\t'; blank && random.Intn(2) == 0 {
					b.WriteString("\r\n")
				}
				b.WriteByte(flat[at])
			}
			wantParse(t, b.String(), x)
		}
	}
	head, tail := " from a.example ([1.2.3.4]) by b.example with ESMTP id 17 for ", "<x@y.example> ; Sun, 15 Nov 2026 04:00:00 +0000"
	for range 2000 {
		wantParse(t, anyGaps(random, head)+anyGaps(random, tail), whole())
	}
}

// anyGaps is a text with other gaps in the place of its blanks, and other capitals of its words.
func anyGaps(random *rand.Rand, s string) string {
	var b strings.Builder
	for _, w := range strings.SplitAfter(s, " ") {
		word, gap := strings.CutSuffix(w, " ")
		if strings.Contains(" from by with id for ", " "+word+" ") && random.Intn(2) == 0 {
			word = strings.ToUpper(word[:1]) + word[1:]
		}
		b.WriteString(word)
		for n := 1 + random.Intn(3); gap && n > 0; n-- {
			b.WriteString([]string{" ", "\t", "\r\n ", "\r\n\t"}[random.Intn(4)])
		}
	}
	return b.String()
}

// variants are what may stand in the place of each part: the first of each row is as it has to be.
func variants() [][]string {
	gap := []string{" ", "", "\t \t", "\r\n ", "\r\n", "\r", "-", "\u00a0"}
	host := []string{"a.example", "[1.2.3.4]", "[ipv6:::1]", "[x:(y;z)]", "\u00fc.example", "by", "", "a..b", "a_b", "[1.2.3", "[1.2.3.256]", "[1.2.3.4]x", "[x:y z]", "\xff", "a(b", "a)b", "a;b", "a,b", domainOf(255), domainOf(255) + "x"}
	return [][]string{
		{" ", "", "\t\t ", "\r\n ", "x", "\r\n", "\v"},
		{"from", "FROM", "fRoM", "form", "fro", "fromm", "", "from1", "by", "fr\u00f6m"},
		gap, host,
		{" ([1.2.3.4])", "", "\t([x:y])", " \t([IPv6:::])", " (a.example)", " (", " ()", " (a..b)", " ([1.2.3.4]", " ([1.2.3.4)", " ([1.2.3.4] )", " ( [1.2.3.4])", "([1.2.3.4])", " ([x:y]) ([x:y])", " ([x:y])x", " [x:y]", " (from", " ([x:\u00e9])", " (by [x:y])"},
		gap, {"by", "BY", "bY", "", "b", "byy", "by1", "with"}, gap, host, gap, {"with", "WITH", "wiTh", "", "withh", "wit", "id"}, gap,
		{"ESMTP", "1", xs(16), xs(17), "", "-", "E-X", "\u00e9", "id", "for", "<x@y>"},
		{" id 17", "", " ID\t!#$", " id", " id ", "id 17", " idx 17", " id17", " id " + xs(64), " id " + xs(65), " id a b", " id a.b", " id \u00e9", " id for", " id id 1", " i 1", " id (", "\r\n id 1", "\r\nid 1"},
		{" for <x@y.example>", "", " FOR\t<postMaster>", " for <>", " for", " for ", " for<x@y>", " forx <x@y>", " for <\"a b;c>(d\"@[1.2.3.4]>", " for <@a,@b:c@d>", " for x@y", " for <x@y", " for <x@y>z", " for <\u00fc@y>", " for <\xff@y>", " for <x@y> id 1", " fo <x@y>", " for for", " for <\"x@y>", " for <" + xs(64) + "@" + domainOf(190) + ">"},
		{"", " ", "\t\t", "\r\n ", "x", "\r"}, {";", "", ":", ";;", ";\x00"},
		{" Sun, 15 Nov 2026 04:00:00 +0000", z2000, "1 Jan 2000 00:00 Z (x;y) ", "", " ", " Mon, 15 Nov 2026 04:00:00 +0000", "32 Jan 2000 00:00 Z", " 1 Jan 2000 00:00 +2400", z2000 + " x", "\r\n\t1 Jan 2000 00:00 Z\r\n ", "\r\n1 Jan 2000 00:00 Z", " 1 Jan 2000 00:00"},
	}
}

// P18.3, R5: of any two parts that are not as they have to be the first fault from the left is told.
func TestWhichFaultIsTold(t *testing.T) {
	rows := variants()
	pick := make([]int, len(rows))
	told := map[api.Errno]int{}
	ask := func() {
		var b strings.Builder
		for i, row := range rows {
			b.WriteString(row[pick[i]])
		}
		told[agree(t, b.String()).Err]++
	}
	for i := range rows {
		for pick[i] = range rows[i] {
			for j := i + 1; j < len(rows); j++ {
				for pick[j] = range rows[j] {
					ask()
				}
				pick[j] = 0
			}
		}
		pick[i] = 0
	}
	random := rand.New(rand.NewSource(1832))
	for range 20000 {
		for i := range rows {
			pick[i] = 0
			if random.Intn(3) == 0 {
				pick[i] = random.Intn(len(rows[i]))
			}
		}
		ask()
	}
	for _, e := range []api.Errno{api.OK, api.ErrTrace, api.ErrLabel, api.ErrDomain, api.ErrAddr, api.ErrTag, api.ErrLocal, api.ErrQuote, api.ErrPath, api.ErrWide, api.ErrDate, api.ErrZone} {
		if told[e] < 10 {
			t.Fatalf("not all kinds came: %v", told)
		}
	}
}

// P18.3: bodies cut off at every byte, and every byte at every place of them.
func TestEveryByteAtEveryPlace(t *testing.T) {
	for _, s := range []string{wholeBody, "from [x:y]\t([IPv6:::1]) BY \u00fc with X id 1 for <@a,@b:\"c d\"@[1.2.3.4]> ;1 Jan 2000 00:00 Z (z)", plainBody} {
		if spot := agree(t, s); spot != (api.Spot{}) {
			t.Fatalf("%q: %v", s, spot)
		}
		for at := range len(s) {
			if agree(t, s[:at]).Err == api.OK && !strings.Contains(s[:at], "Z") {
				t.Fatalf("%q could be read", s[:at])
			}
			agree(t, s[at:])
			agree(t, s[:at]+s[at+1:])
			for b := range 256 {
				c := string([]byte{byte(b)})
				agree(t, s[:at]+c+s[at+1:])
				agree(t, s[:at]+c+s[at:])
			}
		}
	}
}

// P18.3: all short rows of words, gaps and marks.
func TestAllShortRows(t *testing.T) {
	eachText([]string{" ", "from", "a", "(", "[x:y]", ")", "by", ";"}, 6, func(s string) { agree(t, s) })
	eachText([]string{" ", "id", "1", "for", "<x@y>", ";", "i"}, 5, func(s string) {
		agree(t, "from a by b with X"+s+";"+z2000)
		agree(t, "from a by b with"+s+z2000)
	})
	eachText([]string{" ", "\t", "\r\n", "X"}, 5, func(s string) {
		agree(t, s+"from"+s+"a"+s+"by"+s+"b"+s+"with"+s+"X"+s+"id"+s+"1"+s+"for"+s+"<x@y>"+s+";"+z2000)
		agree(t, "from a"+s+"([x:y])"+s+"by b with X;"+z2000)
	})
}
