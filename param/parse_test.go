package param_test

import (
	"math/rand"
	"regexp"
	"slices"
	"strings"
	"testing"
	"unicode/utf8"

	"posthorn/api"
	"posthorn/param"
)

// capitals are those of a text, of the letters a to z alone.
func capitals(s string) string {
	b := []byte(s)
	for i := range b {
		if b[i] >= 'a' && b[i] <= 'z' {
			b[i] -= 32
		}
	}
	return string(b)
}

// formed is how many bytes the longest well-formed beginning of a text has.
func formed(s string) int {
	for n := len(s); n > 0; n-- {
		if utf8.ValidString(s[:n]) {
			return n
		}
	}
	return 0
}

var keywordRow = regexp.MustCompile("^[A-Za-z0-9][A-Za-z0-9-]*")

// modelBad is where a value is wrong; its length, if it is not.
func modelBad(v string, wide bool) int {
	for i := range len(v) {
		switch b := v[i]; {
		case b < 33, b == '=', b == 127, b > 127 && !wide:
			return i
		}
	}
	return formed(v)
}

// modelParse is what P10.1 says.
func modelParse(s string, wide bool) ([]api.Param, api.Spot) {
	wrong := func(e api.Errno, at int) ([]api.Param, api.Spot) { return nil, api.Spot{Err: e, At: at} }
	var l []api.Param
	at := 0
	for at < len(s) {
		if s[at] != 32 {
			return wrong(api.ErrKeyword, at)
		}
		if len(l) >= 16 {
			return wrong(api.ErrFull, at)
		}
		at++
		keyword := keywordRow.FindString(s[at:])
		if keyword == "" {
			return wrong(api.ErrKeyword, at)
		}
		at += len(keyword)
		it := api.Param{Name: capitals(keyword), Has: strings.HasPrefix(s[at:], "=")}
		if !it.Has && at < len(s) && s[at] != 32 {
			return wrong(api.ErrKeyword, at)
		}
		if it.Has {
			at++
			it.Value = strings.Split(s[at:], " ")[0]
			if bad := modelBad(it.Value, wide); it.Value == "" || bad < len(it.Value) {
				return wrong(api.ErrValue, at+bad)
			}
			at += len(it.Value)
		}
		l = append(l, it)
	}
	return l, api.Spot{}
}

// checkParse holds Parse against the model, and against P10.8.
func checkParse(t *testing.T, s string) {
	t.Helper()
	for _, wide := range []bool{false, true} {
		l, spot := param.Parse(s, wide)
		if want, fault := modelParse(s, wide); !slices.Equal(l, want) || spot != fault {
			t.Errorf("Parse(%q, %v): %v, %v, want %v, %v", s, wide, l, spot, want, fault)
		}
		if spot.Err == api.OK {
			checkWritten(t, s, l)
		}
	}
}

// checkWritten holds what was read of s against P10.8: written again it is s, but for capitals of keywords.
func checkWritten(t *testing.T, s string, l []api.Param) {
	t.Helper()
	text, e := param.Print(l)
	if e != api.OK || len(text) != len(s) {
		t.Errorf("%q: read, and written as %q, %d", s, text, e)
		return
	}
	inKeyword := true
	for i := range len(s) {
		switch {
		case s[i] == ' ':
			inKeyword = true
		case s[i] == '=':
			inKeyword = false
		}
		want := s[i : i+1]
		if inKeyword {
			want = capitals(want)
		}
		if text[i:i+1] != want {
			t.Errorf("%q: read, and written as %q", s, text)
			return
		}
	}
}

// rows calls f of all rows of at most so many of the parts.
func rows(parts []string, most int, f func(string)) {
	f("")
	if most == 0 {
		return
	}
	for _, part := range parts {
		rows(parts, most-1, func(s string) { f(part + s) })
	}
}

// around calls f of all beginnings of s, and of s with each byte left out, with each of the bytes put ahead
// of it, and in its place.
func around(s, bytes string, f func(string)) {
	for i := range len(s) + 1 {
		f(s[:i])
		for j := range len(bytes) {
			f(s[:i] + bytes[j:j+1] + s[i:])
			if i < len(s) {
				f(s[:i] + bytes[j:j+1] + s[i+1:])
			}
		}
		if i < len(s) {
			f(s[:i] + s[i+1:])
		}
	}
}

// everyByte is each byte once.
func everyByte() string {
	b := make([]byte, 256)
	for i := range b {
		b[i] = byte(i)
	}
	return string(b)
}

// P10.1, P10.8, R1, R4, R5: all short rows of what stands in parameters.
func TestParseOfShortRows(t *testing.T) {
	all := []string{" ", "A", "z", "0", "-", "=", "_", "+", "~", "\t", "\x7f", "\x00", "\xc3", "\xa9", "\xff", "é", ";", "SIZE"}
	rows(all, 3, func(s string) {
		checkParse(t, s)
		checkParse(t, " "+s)
		checkParse(t, " A"+s)
		checkParse(t, " A="+s)
		checkParse(t, " A=b "+s)
	})
	rows([]string{" ", "a", "-", "=", "\xc3", "\xa9"}, 7, func(s string) { checkParse(t, s) })
}

// P10.1, P10.8: each byte in each place, of keywords and values of one byte and more.
func TestParseOfEachByte(t *testing.T) {
	for _, s := range []string{" A", " AB", " A-9", " A=b", " AB=cd", " A B=c D", " size=10 Body=8bitmime ret=FULL", " X-y-=~!+", " A=é€ B", " A=\xf0\x9f\x92\xa9 B=b", " 8=8"} {
		around(s, everyByte(), func(s string) { checkParse(t, s) })
	}
	for i := range 256 {
		c := string([]byte{byte(i)})
		first := c >= "0" && c <= "9" || capitals(c) >= "A" && capitals(c) <= "Z"
		switch {
		case first:
			wantParse(t, " "+c, false, api.Param{Name: capitals(c)})
		default:
			wantParseFault(t, " "+c, true, api.ErrKeyword, 1)
		}
		switch {
		case first || c == "-":
			wantParse(t, " A"+c, false, api.Param{Name: "A" + capitals(c)})
			wantParse(t, " A"+c+"=b", false, api.Param{Name: "A" + capitals(c), Value: "b", Has: true})
		case c == " ":
			wantParseFault(t, " A"+c, false, api.ErrKeyword, 3)
		case c == "=":
			wantParseFault(t, " A"+c, false, api.ErrValue, 3)
		default:
			wantParseFault(t, " A"+c, true, api.ErrKeyword, 2)
			wantParseFault(t, " A"+c+"=b", true, api.ErrKeyword, 2)
		}
		switch {
		case i > 32 && i < 127 && c != "=":
			for _, wide := range []bool{false, true} {
				wantParse(t, " A="+c, wide, api.Param{Name: "A", Value: c, Has: true})
				wantParse(t, " A=b"+c+" B", wide, api.Param{Name: "A", Value: "b" + c, Has: true}, api.Param{Name: "B"})
			}
		case i == 32:
			wantParseFault(t, " A=b"+c, true, api.ErrKeyword, 5)
		default:
			wantParseFault(t, " A="+c, true, api.ErrValue, 3)
			wantParseFault(t, " A=b"+c, false, api.ErrValue, 4)
			wantParseFault(t, " A=b"+c+" B", true, api.ErrValue, 4)
		}
	}
}

// P10.1, R5: the order of the errors, and their places, without the model.
func TestOrderOfParseFaults(t *testing.T) {
	sixteen := strings.Repeat(" A", 16)
	for _, c := range []struct {
		s    string
		wide bool
		e    api.Errno
		at   int
	}{
		{"A", false, api.ErrKeyword, 0}, {"\t", false, api.ErrKeyword, 0}, {"=", false, api.ErrKeyword, 0}, {"\xa0A", true, api.ErrKeyword, 0},
		{" ", false, api.ErrKeyword, 1}, {"  ", false, api.ErrKeyword, 1}, {" =", false, api.ErrKeyword, 1}, {" =b", false, api.ErrKeyword, 1}, {" é", true, api.ErrKeyword, 1},
		{" A  B", false, api.ErrKeyword, 3}, {" A=b  B", false, api.ErrKeyword, 5}, {" A=b ", false, api.ErrKeyword, 5}, {" A\tB", false, api.ErrKeyword, 2}, {" Aé=b", true, api.ErrKeyword, 2}, {" A\x00", false, api.ErrKeyword, 2},
		{" A=b -", false, api.ErrKeyword, 5}, {" A=b B_=\xff", false, api.ErrKeyword, 6}, {" A== _", false, api.ErrValue, 3}, {" A=b B=", false, api.ErrValue, 7}, {" A= ", false, api.ErrValue, 3},
		{" A=b\xff\x01", false, api.ErrValue, 4}, {" A=b\xff\x01", true, api.ErrValue, 5}, {" A=\xffb=", true, api.ErrValue, 5}, {" A=\xc3\xa9\xff", true, api.ErrValue, 5}, {" A=é\xc3", true, api.ErrValue, 5}, {" A=\xc3 \xa9", true, api.ErrValue, 3}, {" A=ab\xe2\x82 B", true, api.ErrValue, 5},
		{" A=\xed\xa0\x80", true, api.ErrValue, 3}, {" A=\xc0\x80", true, api.ErrValue, 3}, {" A=x\xf4\x90\x80\x80", true, api.ErrValue, 4}, {" A=\xe2\x82\xacé=", true, api.ErrValue, 8}, {" A=\xe2\x82\xacé=", false, api.ErrValue, 3}, {" A=\x7f\xff", true, api.ErrValue, 3},
		{sixteen + " ", false, api.ErrFull, 32}, {sixteen + " A", false, api.ErrFull, 32}, {sixteen + " =", false, api.ErrFull, 32}, {sixteen + "  ", true, api.ErrFull, 32}, {sixteen + "=", true, api.ErrValue, 33}, {sixteen + "_ A", true, api.ErrKeyword, 32}, {sixteen + "=b B", true, api.ErrFull, 34},
		{strings.Repeat(" A", 15) + "  A", false, api.ErrKeyword, 31}, {strings.Repeat(" A", 17) + "=\xff", false, api.ErrFull, 32}, {"A" + sixteen + " A", false, api.ErrKeyword, 0},
	} {
		wantParseFault(t, c.s, c.wide, c.e, c.at)
		checkParse(t, c.s)
	}
}

// P10.1: 16 and 17 parameters, of each sort, and many more.
func TestParseOfManyParameters(t *testing.T) {
	for _, one := range []string{" A", " A=b", " ab-c", " A=é"} {
		for n := range 20 {
			s := strings.Repeat(one, n)
			l, spot := param.Parse(s, true)
			switch {
			case n > 16 && (len(l) != 0 || spot != (api.Spot{Err: api.ErrFull, At: 16 * len(one)})):
				t.Errorf("%d times %q: %v, %v", n, one, l, spot)
			case n <= 16 && (len(l) != n || spot != (api.Spot{})):
				t.Errorf("%d times %q: %v, %v", n, one, l, spot)
			}
			checkParse(t, s)
		}
	}
	long := strings.Repeat("k", 100000)
	wantParse(t, " "+long+"="+long, false, api.Param{Name: strings.ToUpper(long), Value: long, Has: true})
	wantParseFault(t, strings.Repeat(" A", 100000), false, api.ErrFull, 32)
	wantParseFault(t, strings.Repeat(" ", 100000), false, api.ErrKeyword, 1)
}

// modelPrint is what P10.2 says.
func modelPrint(l []api.Param) (string, api.Errno) {
	if len(l) > 16 {
		return "", api.ErrFull
	}
	s := ""
	for _, it := range l {
		switch {
		case it.Name == "" || keywordRow.FindString(it.Name) != it.Name || strings.ContainsAny(it.Name, "abcdefghijklmnopqrstuvwxyz"):
			return "", api.ErrKeyword
		case it.Has && (it.Value == "" || modelBad(it.Value, true) < len(it.Value)), !it.Has && it.Value != "":
			return "", api.ErrValue
		case it.Has:
			s += " " + it.Name + "=" + it.Value
		default:
			s += " " + it.Name
		}
	}
	return s, api.OK
}

// checkPrint holds Print against the model, and against P10.8.
func checkPrint(t *testing.T, l []api.Param) {
	t.Helper()
	want, wrong := modelPrint(l)
	wantPrint(t, l, want, wrong)
	if wrong == api.OK {
		wantParse(t, want, true, l...)
	}
}

// P10.2, P10.8, R8: parameters of all sorts, alone and in pairs.
func TestPrint(t *testing.T) {
	var all []api.Param
	for _, name := range []string{"A", "SIZE", "8-X", "A-", "Z0", "", "a", "sIZE", "SIZe", "-A", "-", "A_", "_A", "A B", "A=", "=", "é", "AÉ", "A\x00", "A\n", "[", "@", "`", "{", "/", ":", "A:"} {
		for _, value := range []string{"", "b", "B", "~!+;,<>", "=", "a=b", " ", "a b", "b ", "é", "€é", "\xff", "a\xc3", "\xed\xa0\x80", "\x7f", "\x00", "é=", "\xf0\x9f\x92\xa9"} {
			all = append(all, api.Param{Name: name, Value: value}, api.Param{Name: name, Value: value, Has: true})
		}
	}
	wantPrint(t, nil, "", api.OK)
	wantPrint(t, []api.Param{}, "", api.OK)
	for _, a := range all {
		checkPrint(t, []api.Param{a})
		for _, b := range all {
			checkPrint(t, []api.Param{a, b})
		}
	}
	for i := range 256 {
		c := string([]byte{byte(i)})
		for _, name := range []string{c, "A" + c, c + "A", "A" + c + "B"} {
			checkPrint(t, []api.Param{{Name: name}})
		}
		for _, value := range []string{c, "b" + c, c + "b", "\xc3" + c, c + "\xa9", "é" + c} {
			checkPrint(t, []api.Param{{Name: "A", Value: value, Has: true}})
			checkPrint(t, []api.Param{{Name: "A", Value: value}})
		}
	}
}

// P10.2, R5: 16 and 17 parameters, and the order of the errors, without the model.
func TestOrderOfPrintErrors(t *testing.T) {
	for _, one := range []string{"A", "A=b", "A=é"} {
		l := slices.Repeat(list(one), 16)
		wantPrint(t, l, strings.Repeat(" "+one, 16), api.OK)
		wantPrint(t, append(l, p(one)), "", api.ErrFull)
	}
	wantPrint(t, make([]api.Param, 16), "", api.ErrKeyword)
	wantPrint(t, make([]api.Param, 17), "", api.ErrFull)
	wantPrint(t, slices.Repeat(list("a=\xff"), 17), "", api.ErrFull)
	wantPrint(t, list("a=\xff"), "", api.ErrKeyword)
	wantPrint(t, list("A=\xff", "a"), "", api.ErrValue)
	wantPrint(t, list("a", "A=\xff"), "", api.ErrKeyword)
	wantPrint(t, list("A=b", "B=", "c"), "", api.ErrValue)
	wantPrint(t, append(slices.Repeat(list("A"), 15), p("A=")), "", api.ErrValue)
	wantPrint(t, append(slices.Repeat(list("A"), 15), p("a")), "", api.ErrKeyword)
}

// P10.1, P10.2, P10.8: there and back, of parameters and of texts, at random.
func TestThereAndBackAtRandom(t *testing.T) {
	r := rand.New(rand.NewSource(10))
	row := func(most int, of string) string {
		out := ""
		for range r.Intn(most + 1) {
			out += string([]rune(of)[r.Intn(len([]rune(of)))])
		}
		return out
	}
	for range 20000 {
		var l []api.Param
		for range r.Intn(18) {
			it := api.Param{Name: "A" + row(4, "AZ09-BCx"), Has: r.Intn(2) == 0}
			if it.Has {
				it.Value = "!" + row(6, "az09AZ~!+;,é€=")
			}
			l = append(l, it)
		}
		checkPrint(t, l)
		checkParse(t, row(12, "  abZ-0==é\x7f"))
		checkParse(t, " k"+strings.ReplaceAll(row(10, "aZ9-"), "a", " a=")+"1")
	}
}

// R3: what is handed in stays as it is, with the room behind its end; a list that is handed out is memory of
// its own.
func TestMemory(t *testing.T) {
	makers := map[string]func() []api.Param{
		"Parse":  func() []api.Param { l, _ := param.Parse(" A=b C D=e", false); return l },
		"OfMail": func() []api.Param { l, _ := param.OfMail(api.MailOpts{HasSize: true, Body: 1, Ret: 2}); return l },
		"OfRcpt": func() []api.Param {
			l, _ := param.OfRcpt(api.RcptOpts{Notify: 14, HasOrig: true, Orig: "a;b"})
			return l
		},
	}
	for name, made := range makers {
		first, second := made(), made()
		kept := slices.Clone(first)
		for i := range first[:cap(first)] {
			first[:cap(first)][i] = api.Param{Name: "X"}
		}
		if len(kept) == 0 || !slices.Equal(second, kept) || !slices.Equal(made(), kept) {
			t.Errorf("%s: lists share memory", name)
		}
	}
	for _, l := range [][]api.Param{list("SIZE=1", "BODY=7BIT", "envid=a", "X"), list("notify=DELAY", "orcpt=a;b", "X"), list("A=b", "C", "D=e", "X")} {
		kept := slices.Clone(l)
		for n := range len(l) {
			param.Print(l[:n])
			param.Mail(l[:n])
			param.Rcpt(l[:n])
		}
		if !slices.Equal(l, kept) {
			t.Errorf("changed: %v, was %v", l, kept)
		}
	}
}
