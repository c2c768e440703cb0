package verb_test

import (
	"math"
	"math/big"
	"math/rand"
	"regexp"
	"slices"
	"strings"
	"testing"

	"posthorn/api"
	"posthorn/domain"
	"posthorn/param"
	"posthorn/path"
	"posthorn/verb"
)

// verbWords are the verbs' words, each at its number.
func verbWords() []string {
	return strings.Fields("none HELO EHLO MAIL RCPT DATA BDAT RSET NOOP VRFY EXPN HELP QUIT AUTH")
}

// capitals are those of a text, of the letters a to z alone.
func capitals(s string) string {
	b := []byte(s)
	for i := range b {
		if b[i] >= 'a' && b[i] <= 'z' {
			b[i] -= 32
		}
	}
	return string(b)
}

// otherCapitals is a text with capitals of several sorts.
func otherCapitals(s string) []string {
	small, great := []byte(capitals(s)), capitals(s)
	for i := range small {
		if small[i] >= 'A' && small[i] <= 'Z' {
			small[i] += 32
		}
	}
	mixed := [2][]byte{}
	for i := range small {
		pair := [2]byte{small[i], great[i]}
		mixed[0] = append(mixed[0], pair[i%2])
		mixed[1] = append(mixed[1], pair[(i+1)%2])
	}
	return []string{string(small), great, string(mixed[0]), string(mixed[1])}
}

// everyByte is each byte once.
func everyByte() string {
	b := make([]byte, 256)
	for i := range b {
		b[i] = byte(i)
	}
	return string(b)
}

// around calls f of all beginnings of s, and of s with each byte left out, with each of the bytes put ahead
// of it, and in its place.
func around(s, bytes string, f func(string)) {
	for i := range len(s) + 1 {
		f(s[:i])
		for j := range len(bytes) {
			f(s[:i] + bytes[j:j+1] + s[i:])
			if i < len(s) {
				f(s[:i] + bytes[j:j+1] + s[i+1:])
			}
		}
		if i < len(s) {
			f(s[:i] + s[i+1:])
		}
	}
}

// rows calls f of all rows of at most so many of the parts.
func rows(parts []string, most int, f func(string)) {
	f("")
	if most == 0 {
		return
	}
	for _, part := range parts {
		rows(parts, most-1, func(s string) { f(part + s) })
	}
}

// What may stand behind a blank, and how far it goes.
var (
	digitRow     = regexp.MustCompile(`^[0-9]*`)
	mechanismRow = regexp.MustCompile(`^[A-Za-z0-9_-]*`)
)

// firstBut is the place of the first byte that is not one of the two bounds or between them, or is left out;
// the length, if there is none.
func firstBut(s string, low, high, leftOut byte) int {
	for i := range len(s) {
		if s[i] < low || s[i] > high || s[i] == leftOut {
			return i
		}
	}
	return len(s)
}

// modelParse is what P11.2 says.
func modelParse(line string) (api.Command, api.Spot) {
	word, behind, blank := strings.Cut(line, " ")
	v := slices.Index(verbWords(), capitals(word))
	if v < 1 {
		return api.Command{}, api.Spot{Err: api.ErrVerb}
	}
	c := api.Command{Verb: v}
	none := slices.Contains([]int{5, 7, 12}, v)
	may := slices.Contains([]int{8, 11}, v)
	at := -1
	switch {
	case none && blank, !none && !may && !blank:
		at = 4
	case blank && behind == "":
		at = 5
	case blank:
		at = modelBehind(&c, behind)
		if at >= 0 {
			at += 5
		}
	}
	if at >= 0 {
		return api.Command{}, api.Spot{Err: api.ErrSyntax, At: at}
	}
	return c, api.Spot{}
}

// modelBehind reads what stands behind a verb's blank, something; it tells where it is wrong, or -1.
func modelBehind(c *api.Command, s string) int {
	switch verbWords()[c.Verb] {
	case "HELO", "EHLO":
		h, spot := domain.Parse(s, false)
		c.Host = h
		return modelSpot(0, spot)
	case "MAIL":
		return modelPath(c, s, "FROM:", path.Reverse)
	case "RCPT":
		return modelPath(c, s, "TO:", path.Forward)
	case "BDAT":
		return modelChunk(c, s)
	case "AUTH":
		return modelAuth(c, s)
	}
	c.HasText, c.Text = true, s
	if at := firstBut(s, 32, 255, 127); at < len(s) {
		return at
	}
	return -1
}

func modelSpot(at int, spot api.Spot) int {
	if spot.Err == api.OK {
		return -1
	}
	return at + spot.At
}

func modelPath(c *api.Command, s, word string, read func(string, bool) (api.Path, int, api.Spot)) int {
	if !strings.HasPrefix(capitals(s), word) {
		return 0
	}
	p, n, spot := read(s[len(word):], true)
	if spot.Err != api.OK {
		return modelSpot(len(word), spot)
	}
	l, spot := param.Parse(s[len(word)+n:], true)
	c.Path, c.Params = p, l
	return modelSpot(len(word)+n, spot)
}

func modelChunk(c *api.Command, s string) int {
	digits := digitRow.FindString(s)
	n, _ := new(big.Int).SetString("0"+digits, 10)
	tail := s[len(digits):]
	switch {
	case digits == "" || len(digits) > 20 || !n.IsInt64():
		return 0
	case tail != "" && tail[0] != ' ':
		return len(digits)
	case tail != "" && capitals(tail) != " LAST":
		return len(digits) + 1
	}
	c.Size, c.Last = n.Int64(), tail != ""
	return -1
}

func modelAuth(c *api.Command, s string) int {
	mechanism := mechanismRow.FindString(s)
	tail := s[len(mechanism):]
	switch {
	case mechanism == "" || len(mechanism) > 20:
		return 0
	case tail != "" && tail[0] != ' ':
		return len(mechanism)
	case tail == " ":
		return len(mechanism) + 1
	}
	p := api.Param{Name: capitals(mechanism)}
	if tail != "" {
		if at := firstBut(tail[1:], 33, 126, 0); at < len(tail)-1 {
			return len(mechanism) + 1 + at
		}
		p.Has = true
		if tail != " =" {
			p.Value = tail[1:]
		}
	}
	c.Params = []api.Param{p}
	return -1
}

// checkLine holds Parse against the model, and what it tells against P11.5.
func checkLine(t *testing.T, line string) {
	t.Helper()
	c, spot := verb.Parse(line)
	if want, fault := modelParse(line); !alike(c, want) || spot != fault {
		t.Fatalf("Parse(%q): %+v, %v, want %+v, %v", line, c, spot, want, fault)
		return
	}
	if spot.Err != api.OK {
		return
	}
	if e := verb.Check(c); e != api.OK {
		t.Fatalf("Check of what %q says: %d", line, e)
	}
	written, e := verb.Print(c)
	if e != api.OK {
		t.Fatalf("Print of what %q says: %d", line, e)
	}
	wantParse(t, written, c)
}

// sixteenWays are a word of four letters in all capitals.
func sixteenWays(word string) []string {
	var l []string
	small, great := strings.ToLower(word), strings.ToUpper(word)
	for bits := range 16 {
		s := ""
		for i := range 4 {
			s += []string{small, great}[bits>>i&1][i : i+1]
		}
		l = append(l, s)
	}
	return l
}

// P11.1, P11.7, R1: Name of numbers of all sorts.
func TestName(t *testing.T) {
	words := verbWords()
	for v := -1; v <= 15; v++ {
		want := ""
		if v > 0 && v < len(words) {
			want = words[v]
		}
		if got := verb.Name(v); got != want {
			t.Fatalf("Name(%d): %q, want %q", v, got, want)
		}
		if want != "" && verb.Find(verb.Name(v)) != v {
			t.Fatalf("Find of Name of %d: %d", v, verb.Find(verb.Name(v)))
		}
	}
	for _, v := range []int{math.MaxInt, math.MinInt, math.MaxInt32, math.MinInt32, 1 << 32, 1<<32 + 3, -3, -13, -14, 256 + 3, 14, 28} {
		if got := verb.Name(v); got != "" {
			t.Fatalf("Name(%d): %q", v, got)
		}
	}
}

// P11.1, P11.7: Find of each word in all capitals, and of all texts around it.
func TestFind(t *testing.T) {
	wantFind := func(word string, want int) {
		t.Helper()
		got := verb.Find(word)
		if got != want {
			t.Fatalf("Find(%q): %d, want %d", word, got, want)
		}
		if got != 0 && verb.Name(got) != capitals(word) {
			t.Fatalf("Name of Find of %q: %q", word, verb.Name(got))
		}
	}
	for v, word := range verbWords() {
		if v == 0 {
			continue
		}
		for _, way := range sixteenWays(word) {
			wantFind(way, v)
			around(way, everyByte(), func(s string) {
				wantFind(s, max(0, slices.Index(verbWords(), capitals(s))))
			})
			wantFind(way+" ", 0)
			wantFind(" "+way, 0)
			wantFind(way[:3], 0)
			wantFind(way[1:], 0)
			wantFind(way+way, 0)
			wantFind(way+"\x00", 0)
		}
	}
	// Letters above 127 whose capitals, or small ones, are among A to Z.
	for _, word := range []string{"", " ", "\x00", "none", "NONE", "QU\u0131T", "qu\u0131t", "R\u017fET", "r\u017fet", "ma\u0130l", "MA\u0130L", "ｑｕｉｔ", "DATÀ", "FROM:", "TO:", "LAST", "STARTTLS", "0", "1", strings.Repeat("QUIT", 25000)} {
		wantFind(word, 0)
	}
}

// wanted are texts that may stand behind each verb's word, with their blank.
func wanted() map[string][]string {
	long := strings.Repeat("l", 63)
	return map[string][]string{
		"HELO": {" a", " a.example", " A.Example", " a-b.c1", " [1.2.3.4]", " [IPv6:::1]", " [ipv6:1:2:3:4:5:6:7:8]", " [x-y:z]", " " + long + "." + long + "." + long + "." + long},
		"MAIL": {" FROM:<>", " FROM:<a@b>", " FROM:<a@b> SIZE=3", " FROM:<> A B=c", " FROM:<@x.y,@z:a@b> BODY=8BITMIME", " FROM:<\"a b\"@[1.2.3.4]>", " FROM:<é@ü.example> SMTPUTF8 X=é", " FROM:<Postmaster@b>"},
		"RCPT": {" TO:<Postmaster>", " TO:<postMASTER> A", " TO:<a@b>", " TO:<a@b> NOTIFY=NEVER", " TO:<@x.y:a@b>", " TO:<\"a>b\"@c> ORCPT=utf-8;é", " TO:<é@ü.example>"},
		"BDAT": {" 0", " 1", " 12", " 0012", " 1 LAST", " 0 last", " 9223372036854775807", " 09223372036854775807 LAST"},
		"NOOP": {" x", "  ", " a b", " é", " \xff", " ~!=\x80"}, "HELP": {" MAIL", "  ", " a  "},
		"VRFY": {" ann", "  ", " <ann@example>", " \xc3"}, "EXPN": {" list", "  x", " é"},
		"AUTH": {" PLAIN", " plain", " CRAM-MD5", " x_1", " a", " PLAIN =", " PLAIN ==", " LOGIN YW5u", " A ~", " A !", " AAAAAAAAAAAAAAAAAAAA b"},
		"DATA": nil, "RSET": nil, "QUIT": nil,
	}
}

// P11.2: each verb with nothing behind it, with a blank and nothing, with two blanks, with each byte behind it,
// with what it wants, and with what others want.
func TestEachVerb(t *testing.T) {
	for v, word := range verbWords()[1:] {
		v++
		var one api.Command
		one.Verb = v
		switch word {
		case "DATA", "RSET", "QUIT":
			wantParse(t, word, one)
			wantSyntax(t, word+" ", 4)
			wantSyntax(t, word+"  ", 4)
			wantSyntax(t, word+" x", 4)
		case "NOOP", "HELP":
			wantParse(t, word, one)
			wantSyntax(t, word+" ", 5)
			wantParse(t, word+"  ", text(v, " "))
			wantParse(t, word+"   ", text(v, "  "))
		case "VRFY", "EXPN":
			wantSyntax(t, word, 4)
			wantSyntax(t, word+" ", 5)
			wantParse(t, word+"  ", text(v, " "))
		default:
			wantSyntax(t, word, 4)
			wantSyntax(t, word+" ", 5)
			wantSyntax(t, word+"  ", 5)
		}
		for i := range 256 {
			if i != ' ' {
				wantNoVerb(t, word+string([]byte{byte(i)}))
			}
		}
		for other, l := range wanted() {
			for _, s := range l {
				checkLine(t, word+s)
				checkLine(t, word+" "+s)
				if _, spot := verb.Parse(word + s); other == word && spot.Err != api.OK {
					t.Fatalf("Parse(%q): %v", word+s, spot)
				}
				for i := range 256 {
					checkLine(t, word+s+string([]byte{byte(i)}))
					if i != ' ' {
						wantNoVerb(t, word+string([]byte{byte(i)})+strings.ReplaceAll(s[1:], " ", "x"))
						checkLine(t, word+string([]byte{byte(i)})+s[1:])
					}
				}
			}
		}
	}
}

// P11.2, P11.5, R4: each byte in each place of each sort of line.
func TestLinesOfEachByte(t *testing.T) {
	for word, l := range wanted() {
		around(word, everyByte(), func(s string) { checkLine(t, s) })
		for _, s := range l {
			if len(s) < 40 {
				around(word+s, everyByte(), func(s string) { checkLine(t, s) })
			}
		}
	}
}

// P11.2: all short rows of what stands in lines.
func TestShortRows(t *testing.T) {
	for _, word := range verbWords()[1:] {
		rows([]string{" ", "a", "1", "<", ">", "@", "=", ":", "[", "é", "\xff", "\x00", "\x7f", "FROM:", "TO:", "LAST"}, 3, func(s string) {
			checkLine(t, word+s)
			checkLine(t, word+" "+s)
		})
	}
	rows([]string{" ", "from:", "To:", "<", ">", "a", "@", "A=b"}, 5, func(s string) {
		checkLine(t, "MAIL FROM:<"+s)
		checkLine(t, "RCPT TO:<"+s)
		checkLine(t, "MAIL "+s)
	})
	rows([]string{" ", "0", "9", "LAST", "last", "L", "\t"}, 5, func(s string) { checkLine(t, "BDAT "+s) })
	rows([]string{" ", "=", "a", "-", "_", "\x1f", "\x80"}, 5, func(s string) { checkLine(t, "AUTH "+s) })
}

// P11.2: where there is no verb.
func TestNoVerb(t *testing.T) {
	for _, line := range []string{"", " ", "  ", " HELO a", "  QUIT", "\tQUIT", "QUIT\t", "QUIT\r", "QUIT\n", "QUIT\r\n", "HEL", "HEL O", "HELOO a", "HELOa", "MAILFROM:<a@b>", "MAIL\xa0FROM:<a@b>", "FROM:<a@b>", "\x00QUIT", "QUIT\x00", "QU\u0131T", "R\u017fET", "none", "NONE x", "BDAT1", "AUTH=", "DATA.", "é", strings.Repeat("A", 100000), strings.Repeat(" ", 100000)} {
		wantNoVerb(t, line)
		checkLine(t, line)
	}
}

// P11.2: HELO and EHLO, without the model.
func TestHosts(t *testing.T) {
	label := strings.Repeat("l", 63)
	longest := label + "." + label + "." + label + "." + label
	for word, v := range map[string]int{"HELO": 1, "EHLO": 2, "hElO": 1} {
		say := func(s string, h api.Host) {
			t.Helper()
			wantParse(t, word+" "+s, api.Command{Verb: v, Host: h})
		}
		say("a", name("a"))
		say("Mx.Example", name("Mx.Example"))
		say(longest, name(longest))
		say("[255.0.0.1]", v4(255, 0, 0, 1))
		say("[IPv6:::1]", api.Host{Kind: api.HostV6, Addr: [16]byte{15: 1}})
		say("[X-y:Z]", api.Host{Kind: api.HostTag, Name: "X-y:Z"})
		for s, at := range map[string]int{
			"": 0, " ": 0, " a": 0, "a ": 1, "a b": 1, ".": 0, "a.": 2, "-a": 0, "a-": 2, "a_b": 1, "é.example": 0, "a.é": 2, "a\x00": 1, "<a>": 0,
			label + "l": 63, longest + ".": 255, longest + "x": 255, "_" + longest: 255,
			"[": 1, "[]": 1, "[1.2.3.4": 8, "[1.2.3.4] ": 10, "[1.2.3.256]": 9, "[IPv6:1:2]": 9, "[x:é]": 3, "[:z]": 1, "[" + longest: 255,
		} {
			wantSyntax(t, word+" "+s, 5+at)
		}
	}
}

// P11.2: MAIL and RCPT, without the model.
func TestPaths(t *testing.T) {
	mail := func(p api.Path, l ...string) api.Command { return api.Command{Verb: 3, Path: p, Params: params(l...)} }
	rcpt := func(p api.Path, l ...string) api.Command { return api.Command{Verb: 4, Path: p, Params: params(l...)} }
	for _, from := range []string{"FROM:", "from:", "From:", "fROm:"} {
		wantParse(t, "MAIL "+from+"<>", mail(null()))
		wantParse(t, "MAIL "+from+"<a@b>", mail(box("a", "b")))
		wantParse(t, "MAIL "+from+"<@x,@y.z:a@b> a", mail(box("a", "b", "x", "y.z"), "A"))
		wantParse(t, "MAIL "+from+"<\"a b\"@c> X=y z", mail(box("a b", "c"), "X=y", "Z"))
		wantParse(t, "MAIL "+from+"<é@ü.example> x=é", mail(box("é", "ü.example"), "X=é"))
		wantParse(t, "MAIL "+from+"<Postmaster@b>", mail(box("Postmaster", "b")))
		wantSyntax(t, "RCPT "+from+"<a@b>", 5)
	}
	for _, to := range []string{"TO:", "to:", "To:", "tO:"} {
		wantParse(t, "RCPT "+to+"<PostMaster>", rcpt(master()))
		wantParse(t, "RCPT "+to+"<a@b>", rcpt(box("a", "b")))
		wantParse(t, "RCPT "+to+"<@x:a@b> notify=Never", rcpt(box("a", "b", "x"), "NOTIFY=Never"))
		wantParse(t, "RCPT "+to+"<é@ü.example> ORCPT=utf-8;é", rcpt(box("é", "ü.example"), "ORCPT=utf-8;é"))
		wantSyntax(t, "MAIL "+to+"<a@b>", 5)
	}
	seventeen := strings.Repeat(" A", 17)
	wantParse(t, "MAIL FROM:<>"+seventeen[2:], mail(null(), strings.Fields(seventeen[2:])...))
	long := "<" + strings.Repeat("a", 64) + "@" + strings.Repeat("d.", 94) + "d>"
	wantParse(t, "MAIL FROM:"+long, mail(box(strings.Repeat("a", 64), strings.Repeat("d.", 94)+"d")))
	for _, c := range []struct {
		s  string
		at int
	}{
		{"MAIL <a@b>", 5}, {"MAIL a@b", 5}, {"MAIL FROM", 5}, {"MAIL FROM <a@b>", 5}, {"MAIL FROM :<a@b>", 5}, {"MAIL  FROM:<a@b>", 5}, {"MAIL FROM;<a@b>", 5}, {"MAIL TROM:<a@b>", 5}, {"MAIL FR\u00d6M:<a@b>", 5},
		{"MAIL FROM:", 10}, {"MAIL FROM: ", 10}, {"MAIL FROM: <>", 10}, {"MAIL FROM:a@b", 10}, {"MAIL FROM:<", 11}, {"MAIL FROM:<a", 12}, {"MAIL FROM:<a@", 13}, {"MAIL FROM:<a@b", 14}, {"MAIL FROM:<a@b_>", 14}, {"MAIL FROM:<a@b c>", 14}, {"MAIL FROM:<Postmaster>", 21},
		{"MAIL FROM:<\xff@b>", 11}, {"MAIL FROM:<a@\xff>", 13}, {"MAIL FROM:<\"a@b>", 11}, {"MAIL FROM:<@[1.2.3.4]:a@b>", 12}, {"MAIL FROM:<@x;a@b>", 13}, {"MAIL FROM:<@x,a@b>", 14},
		{"MAIL FROM:" + strings.Replace(long, "<", "<@x:", 1), 10}, {"MAIL FROM:<" + strings.Repeat("a", 65) + "@b>", 11},
		{"MAIL FROM:<a@b>x", 15}, {"MAIL FROM:<a@b>\t", 15}, {"MAIL FROM:<a@b>>", 15}, {"MAIL FROM:<a@b> ", 16}, {"MAIL FROM:<a@b>  A", 16}, {"MAIL FROM:<a@b> =", 16}, {"MAIL FROM:<a@b> A=", 18}, {"MAIL FROM:<a@b> A=b=c", 19}, {"MAIL FROM:<a@b> A_", 17}, {"MAIL FROM:<a@b> A B=\xff", 20}, {"MAIL FROM:<> é", 13}, {"MAIL FROM:<>" + seventeen, 44},
		{"RCPT <a@b>", 5}, {"RCPT TO", 5}, {"RCPT TO <a@b>", 5}, {"RCPT  TO:<a@b>", 5}, {"RCPT T0:<a@b>", 5}, {"RCPT TO:", 8}, {"RCPT TO: <a@b>", 8}, {"RCPT TO:<>", 9}, {"RCPT TO:<Postmaster", 19}, {"RCPT TO:<Postmaster >", 19}, {"RCPT TO:<Postmaster>x", 20}, {"RCPT TO:<Postmaster> ", 21}, {"RCPT TO:<a@b>:", 13}, {"RCPT TO:<a@b> -", 14},
		// Two faults: the one further left.
		{"MAIL FRM:<a@", 5}, {"MAIL FROM:<a..b> =", 12}, {"MAIL FROM:<a@b>x =", 15}, {"MAIL FROM:<a@b> A= B=", 18}, {"MAIL TO:<a@b", 5}, {"RCPT TO:<> =", 9},
	} {
		wantSyntax(t, c.s, c.at)
		checkLine(t, c.s)
	}
}

// P11.2: BDAT, without the model.
func TestChunks(t *testing.T) {
	say := func(s string, n int64, last bool) {
		t.Helper()
		wantParse(t, "BDAT "+s, api.Command{Verb: 6, Size: n, Last: last})
	}
	nines := "9223372036854775807"
	for s, n := range map[string]int64{"0": 0, "1": 1, "00": 0, "007": 7, "1000000": 1000000, nines: math.MaxInt64, "0" + nines: math.MaxInt64, strings.Repeat("0", 20): 0, strings.Repeat("0", 19) + "1": 1} {
		say(s, n, false)
		for _, way := range sixteenWays("LAST") {
			say(s+" "+way, n, true)
			wantSyntax(t, "BDAT "+s+" "+way+"X", 6+len(s))
			wantSyntax(t, "BDAT "+s+" "+way+" ", 6+len(s))
			wantSyntax(t, "BDAT "+s+"  "+way, 6+len(s))
			wantSyntax(t, "BDAT "+s+way, 5+len(s))
			for i := range 4 {
				wantSyntax(t, "BDAT "+s+" "+way[:i], 6+len(s))
				wantSyntax(t, "BDAT "+s+" "+way[i+1:], 6+len(s))
			}
		}
		wantSyntax(t, "BDAT "+s+" LA\u017fT", 6+len(s))
		wantSyntax(t, "BDAT "+s+" LAST LAST", 6+len(s))
		wantSyntax(t, "BDAT "+s+" 1", 6+len(s))
		wantSyntax(t, "BDAT "+s+"\tLAST", 5+len(s))
		wantSyntax(t, "BDAT "+s+"\x00", 5+len(s))
		wantSyntax(t, "BDAT "+s+".", 5+len(s))
		wantSyntax(t, "BDAT "+s+"x LAST", 5+len(s))
	}
	for _, s := range []string{"", " ", " 1", "x", "-1", "+1", "LAST", " LAST", "\t1", "٣", "x1", "9223372036854775808", "09223372036854775808", "18446744073709551615", "18446744073709551616", "18446744073709551617", "99999999999999999999", strings.Repeat("0", 21), strings.Repeat("0", 20) + "1", "1" + strings.Repeat("0", 20), strings.Repeat("9", 100000)} {
		wantSyntax(t, "BDAT "+s, 5)
	}
	// Two faults: the number's is further left.
	for _, s := range []string{"9223372036854775808x", "9223372036854775808 ", "9223372036854775808 LAST", "99999999999999999999 LASTX", strings.Repeat("0", 21) + "x"} {
		wantSyntax(t, "BDAT "+s, 5)
	}
	wantSyntax(t, "BDAT 1x LASTX", 6)
}

// P11.2: texts of each byte in each place.
func TestTexts(t *testing.T) {
	for word, v := range map[string]int{"NOOP": 8, "VRFY": 9, "EXPN": 10, "HELP": 11, "noop": 8, "Vrfy": 9} {
		for i := range 256 {
			b := string([]byte{byte(i)})
			for ahead, behind := range map[string]string{"": "", "a": "", " ": "z", "ab": "cd", "\xff": " ", "abc ": "\x01"} {
				s := ahead + b + behind
				switch {
				case i < 32 || i == 127:
					wantSyntax(t, word+" "+s, 5+len(ahead))
				case behind == "\x01":
					wantSyntax(t, word+" "+s, 5+len(ahead)+1)
				default:
					wantParse(t, word+" "+s, text(v, s))
				}
			}
		}
		long := strings.Repeat("é ", 50000)
		wantParse(t, word+" "+long, text(v, long))
		wantSyntax(t, word+" "+long+"\n", 5+len(long))
	}
}

// P11.2: mechanisms of each byte and of all lengths.
func TestMechanisms(t *testing.T) {
	for n := 1; n <= 40; n++ {
		for _, letter := range []string{"a", "Z", "0", "-", "_"} {
			s := strings.Repeat(letter, n)
			if n > 20 {
				wantSyntax(t, "AUTH "+s, 5)
				wantSyntax(t, "AUTH "+s+" =", 5)
				wantSyntax(t, "AUTH "+s+"!", 5)
				continue
			}
			wantParse(t, "AUTH "+s, auth(strings.ToUpper(s)))
			wantParse(t, "auth "+s+" =", answered(strings.ToUpper(s), ""))
			wantSyntax(t, "AUTH "+s+" ", 6+n)
			wantSyntax(t, "AUTH "+s+"!", 5+n)
			wantSyntax(t, "AUTH "+s+"! \x00", 5+n)
		}
	}
	for i := range 256 {
		b := string([]byte{byte(i)})
		may := regexp.MustCompile(`^[A-Za-z0-9_-]$`).MatchString(b)
		switch {
		case may:
			wantParse(t, "AUTH "+b, auth(capitals(b)))
			wantParse(t, "AUTH p"+b, auth("P"+capitals(b)))
			wantParse(t, "AUTH "+b+"p x", answered(capitals(b)+"P", "x"))
			wantParse(t, "AUTH "+strings.Repeat("p", 19)+b, auth(strings.Repeat("P", 19)+capitals(b)))
		case b == " ":
			wantSyntax(t, "AUTH "+b, 5)
			wantSyntax(t, "AUTH p"+b, 7)
			wantSyntax(t, "AUTH "+b+"p", 5)
		default:
			wantSyntax(t, "AUTH "+b, 5)
			wantSyntax(t, "AUTH p"+b, 6)
			wantSyntax(t, "AUTH "+b+"p x", 5)
			wantSyntax(t, "AUTH "+strings.Repeat("p", 20)+b, 25)
			wantSyntax(t, "AUTH "+strings.Repeat("p", 21)+b, 5)
		}
	}
}

// P11.2: answers of each byte, = alone and among others.
func TestAnswers(t *testing.T) {
	wantParse(t, "AUTH PLAIN", auth("PLAIN"))
	wantParse(t, "AUTH PLAIN =", answered("PLAIN", ""))
	for _, s := range []string{"==", "===", "a=", "=a", "a=b", "YW5u", "*", "-", "+/", "<>", strings.Repeat("A", 100000)} {
		wantParse(t, "AUTH PLAIN "+s, answered("PLAIN", s))
	}
	for i := range 256 {
		b := string([]byte{byte(i)})
		if i > 32 && i < 127 {
			wantParse(t, "AUTH A a"+b, answered("A", "a"+b))
			wantParse(t, "AUTH A "+b+"b", answered("A", b+"b"))
			if b != "=" {
				wantParse(t, "AUTH A "+b, answered("A", b))
			}
			continue
		}
		wantSyntax(t, "AUTH A "+b, 7)
		wantSyntax(t, "AUTH A ="+b, 8)
		wantSyntax(t, "AUTH A "+b+"=", 7)
		wantSyntax(t, "AUTH A ab"+b+"\x00", 9)
	}
	wantSyntax(t, "AUTH PLAIN  =", 11)
	wantSyntax(t, "AUTH PLAIN = ", 12)
	wantSyntax(t, "AUTH PLAIN a b", 12)
}

// P11.6: the same line in other capitals.
func TestOtherCapitals(t *testing.T) {
	free := regexp.MustCompile(`^(?:MAIL FROM:|RCPT TO:|BDAT [0-9]+ LAST|AUTH [A-Za-z0-9_-]+|[A-Z]+)`)
	for word, l := range wanted() {
		for _, s := range append([]string{""}, l...) {
			line := word + strings.Replace(s, "last", "LAST", 1)
			c, spot := verb.Parse(line)
			at := len(free.FindString(line))
			for _, way := range otherCapitals(line[:at]) {
				if spot.Err == api.OK {
					wantParse(t, way+line[at:], c)
				} else {
					wantFault(t, way+line[at:], spot.Err, spot.At)
				}
			}
		}
	}
	// What is not one of these words stays as it is.
	wantParse(t, "helo A.b", api.Command{Verb: 1, Host: name("A.b")})
	wantParse(t, "mail from:<A@b> x=Y", api.Command{Verb: 3, Path: box("A", "b"), Params: params("X=Y")})
	wantParse(t, "vrfy Ann", text(api.VerbVrfy, "Ann"))
	wantParse(t, "auth plain aB", answered("PLAIN", "aB"))
}

// P11.2, P11.5, P11.7: lines at random, out of what stands in lines.
func TestLinesAtRandom(t *testing.T) {
	r := rand.New(rand.NewSource(11))
	var parts []string
	for word, l := range wanted() {
		parts = append(parts, word, word+" ")
		parts = append(parts, l...)
	}
	parts = append(parts, " ", " ", "=", "<", ">", "@", ":", "\x00", "\xff", "é", "\t", " SIZE=1", " last", "0", "[", "]")
	for range 100000 {
		line := verbWords()[1+r.Intn(13)]
		for range r.Intn(4) {
			line += parts[r.Intn(len(parts))]
		}
		checkLine(t, line)
		checkLine(t, otherCapitals(line)[r.Intn(4)])
	}
}

// P11.7: of each line at most one verb's word is its.
func TestOneOfThem(t *testing.T) {
	for word, l := range wanted() {
		v := slices.Index(verbWords(), word)
		for _, s := range l {
			if c, spot := verb.Parse(word + s); c.Verb != v || spot.Err != api.OK {
				t.Fatalf("Parse(%q): the verb %d, %v", word+s, c.Verb, spot)
			}
		}
		found := 0
		for i := range 16 {
			if verb.Name(i) == word {
				found++
			}
		}
		if found != 1 {
			t.Fatalf("%s is the word of %d verbs", word, found)
		}
	}
}
