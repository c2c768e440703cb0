package date_test

import (
	"math/rand"
	"regexp"
	"strconv"
	"strings"
	"testing"

	"posthorn/api"
	"posthorn/date"
)

// A reading of dates from the chapter's list, told once more: each part is a pattern that takes all that
// stands there, and a question whether that is the part.

type part struct {
	name  string
	takes *regexp.Regexp
	is    *regexp.Regexp
	e     api.Errno
}

func pattern(s string) *regexp.Regexp { return regexp.MustCompile(`\A(?s:` + s + `)`) }

func whole(s string) *regexp.Regexp { return regexp.MustCompile(`\A(?:` + s + `)\z`) }

const (
	weekdayNames = `(?i:sun|mon|tue|wed|thu|fri|sat)`
	monthNames   = `(?i:jan|feb|mar|apr|may|jun|jul|aug|sep|oct|nov|dec)`
	zoneTexts    = `[+-][0-9][0-9][0-5][0-9]|(?i:ut|gmt|[a-ik-z]|est|edt|cst|cdt|mst|mdt|pst|pdt)`
)

var (
	anything = whole(`(?s:.*)`)
	free     = part{"free", pattern(`[ \t]*`), anything, api.ErrDate}
	gap      = part{"gap", pattern(`[ \t]*`), whole(`[ \t]+`), api.ErrDate}
	colon    = part{"colon", pattern(`:?`), whole(`:`), api.ErrDate}
	comma    = part{"comma", pattern(`,?`), whole(`,`), api.ErrDate}
	weekday  = part{"weekday", pattern(`[A-Za-z]*`), whole(weekdayNames), api.ErrDate}
	dayPart  = part{"day", pattern(`[0-9]*`), whole(`[0-9]{1,2}`), api.ErrDate}
	month    = part{"month", pattern(`[A-Za-z]*`), whole(monthNames), api.ErrDate}
	year     = part{"year", pattern(`[0-9]*`), whole(`[0-9]{2,4}`), api.ErrDate}
	hour     = part{"hour", pattern(`[0-9]*`), whole(`[0-9]{2}`), api.ErrDate}
	minute   = part{"minute", pattern(`[0-9]*`), whole(`[0-9]{2}`), api.ErrDate}
	second   = part{"second", pattern(`[0-9]*`), whole(`[0-9]{2}`), api.ErrDate}
	zone     = part{"zone", pattern(`[+-][0-9]*|[A-Za-z]*`), whole(zoneTexts), api.ErrZone}
	remark   = part{"remark", pattern(`\([^)]*\)?`), whole(`\([ -'*-\[\]-~]*\)`), api.ErrDate}
	ending   = part{"ending", pattern(`.*`), whole(``), api.ErrDate}
)

var letter = pattern(`[A-Za-z]`)

// reading is what a text says, part by part.
type reading struct {
	s     string
	at    int
	said  map[string]string
	place map[string]int
	e     api.Spot
}

func (r *reading) take(list ...part) {
	for _, p := range list {
		if r.e.Err != api.OK {
			return
		}
		got := p.takes.FindString(r.s[r.at:])
		if !p.is.MatchString(got) {
			r.e = api.Spot{Err: p.e, At: r.at}
			return
		}
		r.said[p.name], r.place[p.name] = got, r.at
		r.at += len(got)
	}
}

// read is Parse, in the chapter's words.
func read(s string) (api.Date, api.Spot) {
	r := &reading{s: s, said: map[string]string{}, place: map[string]int{}}
	r.take(free)
	if letter.MatchString(s[r.at:]) {
		r.take(weekday, comma, free)
	}
	r.take(dayPart, gap, month, gap, year, gap, hour, colon, minute)
	if strings.HasPrefix(s[r.at:], ":") {
		r.take(colon, second)
	}
	r.take(gap, zone, free)
	if strings.HasPrefix(s[r.at:], "(") {
		r.take(remark, free)
	}
	r.take(ending)
	if r.e.Err != api.OK {
		return api.Date{}, r.e
	}
	return r.date()
}

func (r *reading) number(name string) int {
	n, _ := strconv.Atoi(r.said[name])
	return n
}

func (r *reading) date() (api.Date, api.Spot) {
	y := r.number("year")
	switch len(r.said["year"]) {
	case 2:
		y += 1900
		if y < 1950 {
			y += 100
		}
	case 3:
		y += 1900
	}
	m := strings.Index("janfebmaraprmayjunjulaugsepoctnovdec", strings.ToLower(r.said["month"]))/3 + 1
	d := api.Date{Year: int16(y), Month: int8(m), Day: int8(r.number("day")),
		Hour: int8(r.number("hour")), Minute: int8(r.number("minute")), Second: int8(r.number("second"))}
	d.Zone = zoneSaid(r.said["zone"])
	wrong := judged(d) == api.ErrDate
	if w := r.said["weekday"]; w != "" && !wrong {
		utc := d
		utc.Zone = 0
		wrong = !strings.EqualFold(w, asTime(utc).Weekday().String()[:3])
	}
	if wrong {
		return api.Date{}, api.Spot{Err: api.ErrDate, At: r.place["day"]}
	}
	if judged(d) != api.OK {
		return api.Date{}, api.Spot{Err: api.ErrZone, At: r.place["zone"]}
	}
	return d, api.Spot{}
}

func zoneSaid(s string) int16 {
	if s[0] == '+' || s[0] == '-' {
		h, _ := strconv.Atoi(s[1:3])
		m, _ := strconv.Atoi(s[3:])
		if s[0] == '-' {
			return int16(-60*h - m)
		}
		return int16(60*h + m)
	}
	return map[string]int16{"EST": -300, "EDT": -240, "CST": -360, "CDT": -300, "MST": -420, "MDT": -360, "PST": -480,
		"PDT": -420}[strings.ToUpper(s)]
}

func ask(t *testing.T, s string) api.Spot {
	t.Helper()
	want, spot := read(s)
	if d, e := date.Parse(s); d != want || e != spot {
		t.Fatalf("Parse(%q): %v, %v, want %v, %v", s, d, e, want, spot)
	}
	return spot
}

func at(e api.Errno, place int) api.Spot { return api.Spot{Err: e, At: place} }

// P6.8: faults of each part, each with its place, told by hand.
func TestParseFaults(t *testing.T) {
	for s, want := range map[string]api.Spot{
		"":                             at(api.ErrDate, 0),
		" \t ":                         at(api.ErrDate, 3),
		"Friy, 1 Jan 2000 00:00 Z":     at(api.ErrDate, 0),
		"\t Fr, 1 Jan 2000 00:00 Z":    at(api.ErrDate, 2),
		"Sat 1 Jan 2000 00:00 Z":       at(api.ErrDate, 3),
		"Sat , 1 Jan 2000 00:00 Z":     at(api.ErrDate, 3),
		"Sat":                          at(api.ErrDate, 3),
		"Sat,":                         at(api.ErrDate, 4),
		"Sat,,1 Jan 2000 00:00 Z":      at(api.ErrDate, 4),
		", 1 Jan 2000 00:00 Z":         at(api.ErrDate, 0),
		"Sat, Sat, 1 Jan 2000 00:00 Z": at(api.ErrDate, 5),
		"Sat, 001 Jan 2000 00:00 Z":    at(api.ErrDate, 5),
		"+1 Jan 2000 00:00 Z":          at(api.ErrDate, 0),
		"123 Jan 2000 00:00 Z":         at(api.ErrDate, 0),
		"1Jan 2000 00:00 Z":            at(api.ErrDate, 1),
		"1\nJan 2000 00:00 Z":          at(api.ErrDate, 1),
		"1":                            at(api.ErrDate, 1),
		"1 ":                           at(api.ErrDate, 2),
		"1 2000 00:00 Z":               at(api.ErrDate, 2),
		"1 January 2000 00:00 Z":       at(api.ErrDate, 2),
		"1 Ja 2000 00:00 Z":            at(api.ErrDate, 2),
		"1 01 2000 00:00 Z":            at(api.ErrDate, 2),
		"1 Sun 2000 00:00 Z":           at(api.ErrDate, 2),
		"1 Jan2000 00:00 Z":            at(api.ErrDate, 5),
		"1 Jan":                        at(api.ErrDate, 5),
		"1 Jan 0 00:00 Z":              at(api.ErrDate, 6),
		"1 Jan 02000 00:00 Z":          at(api.ErrDate, 6),
		"1 Jan -200 00:00 Z":           at(api.ErrDate, 6),
		"1 Jan 00:00 Z":                at(api.ErrDate, 8),
		"1 Jan 2000":                   at(api.ErrDate, 10),
		"1 Jan 2000 ":                  at(api.ErrDate, 11),
		"1 Jan 2000  0:00 Z":           at(api.ErrDate, 12),
		"1 Jan 2000 000:00 Z":          at(api.ErrDate, 11),
		"1 Jan 2000 0000 Z":            at(api.ErrDate, 11),
		"1 Jan 2000 00 Z":              at(api.ErrDate, 13),
		"1 Jan 2000 00 :00 Z":          at(api.ErrDate, 13),
		"1 Jan 2000 00: 00 Z":          at(api.ErrDate, 14),
		"1 Jan 2000 00:0 Z":            at(api.ErrDate, 14),
		"1 Jan 2000 00:000 Z":          at(api.ErrDate, 14),
		"1 Jan 2000 00:00: Z":          at(api.ErrDate, 17),
		"1 Jan 2000 00:00:0 Z":         at(api.ErrDate, 17),
		"1 Jan 2000 00:00:000 Z":       at(api.ErrDate, 17),
		"1 Jan 2000 00:00:00Z":         at(api.ErrDate, 19),
		"1 Jan 2000 00:00:00:00 Z":     at(api.ErrDate, 19),
		"1 Jan 2000 00:00Z":            at(api.ErrDate, 16),
		"1 Jan 2000 00:00+0000":        at(api.ErrDate, 16),
		"1 Jan 2000 00:00 ":            at(api.ErrZone, 17),
		"1 Jan 2000 00:00  0000":       at(api.ErrZone, 18),
		"1 Jan 2000 00:00 +":           at(api.ErrZone, 17),
		"1 Jan 2000 00:00 +000":        at(api.ErrZone, 17),
		"1 Jan 2000 00:00 +00000":      at(api.ErrZone, 17),
		"1 Jan 2000 00:00 -00:00":      at(api.ErrZone, 17),
		"1 Jan 2000 00:00 -1060":       at(api.ErrZone, 17),
		"1 Jan 2000 00:00 +-000":       at(api.ErrZone, 17),
		"1 Jan 2000 00:00 j":           at(api.ErrZone, 17),
		"1 Jan 2000 00:00 UTC":         at(api.ErrZone, 17),
		"1 Jan 2000 00:00 ESTx":        at(api.ErrZone, 17),
		"1 Jan 2000 00:00 (UT)":        at(api.ErrZone, 17),
		"1 Jan 2000 00:00 Z1":          at(api.ErrDate, 18),
		"1 Jan 2000 00:00 +0000x":      at(api.ErrDate, 22),
		"1 Jan 2000 00:00 +0000 x":     at(api.ErrDate, 23),
		"1 Jan 2000 00:00 Z (":         at(api.ErrDate, 19),
		"1 Jan 2000 00:00 Z(a":         at(api.ErrDate, 18),
		"1 Jan 2000 00:00 Z  (a(b))":   at(api.ErrDate, 20),
		"1 Jan 2000 00:00 Z (a\\)":     at(api.ErrDate, 19),
		"1 Jan 2000 00:00 Z (a\tb)":    at(api.ErrDate, 19),
		"1 Jan 2000 00:00 Z (a\x7f)":   at(api.ErrDate, 19),
		"1 Jan 2000 00:00 Z (a\xC3)":   at(api.ErrDate, 19),
		"1 Jan 2000 00:00 Z )":         at(api.ErrDate, 19),
		"1 Jan 2000 00:00 Z (a) (b)":   at(api.ErrDate, 23),
		"1 Jan 2000 00:00 Z (a))":      at(api.ErrDate, 22),
		"1 Jan 2000 00:00 Z\r\n":       at(api.ErrDate, 18),
		// What is there as said, and may not be: only where all is there.
		" 0 Jan 2000 00:00 Z":                at(api.ErrDate, 1),
		"Sat,\t32 Jan 2000 00:00 Z":          at(api.ErrDate, 5),
		"29 Feb 1900 00:00 Z":                at(api.ErrDate, 0),
		"29 Feb 000 00:00 Z":                 at(api.ErrDate, 0),
		"1 Jan 0000 00:00 Z":                 at(api.ErrDate, 0),
		"  1 Jan 2000 24:00 Z":               at(api.ErrDate, 2),
		"1 Jan 2000 00:60 Z":                 at(api.ErrDate, 0),
		"1 Jan 2000 23:59:60 Z":              at(api.ErrDate, 0),
		"1 Jan 2000 99:99:99 -9959":          at(api.ErrDate, 0),
		"Sun, 1 Jan 2000 00:00 Z":            at(api.ErrDate, 5),
		"Sun, 1 Jan 2000 00:00 +2400":        at(api.ErrDate, 5),
		"Sat, 1 Jan 2000 00:00  +2400":       at(api.ErrZone, 23),
		"Sat, 1 Jan 2000 00:00 -2400":        at(api.ErrZone, 22),
		"Sat, 1 Jan 2000 00:00 -9959 (a) ":   at(api.ErrZone, 22),
		"1 Jan 2000 00:00 +2400 x":           at(api.ErrDate, 23),
		"30 Feb 2000 00:00 +2400":            at(api.ErrDate, 0),
		"30 Feb 2000 00:00 +0060":            at(api.ErrZone, 18),
		"Sun, 30 Feb 2000 00:00 Z (":         at(api.ErrDate, 25),
		"1 Jan 2000 00:00 Z\x00":             at(api.ErrDate, 18),
		"\xC3\xA9 1 Jan 2000 00:00 Z":        at(api.ErrDate, 0),
		"1 Jan 2000 00:00 \xC3\xA9":          at(api.ErrZone, 17),
		"1 Jan\u017Fbc 2000 00:00 Z":         at(api.ErrDate, 5),
		"1 \u017Fep 2000 00:00 Z":            at(api.ErrDate, 2),
		"1 Jan 2000 00:00 \u212A":            at(api.ErrZone, 17),
		"1 Jan 2000 \u0661\u0662:00 Z":       at(api.ErrDate, 11),
		"1\u00A0Jan 2000 00:00 Z":            at(api.ErrDate, 1),
		strings.Repeat("9", 1000):            at(api.ErrDate, 0),
		"1 " + strings.Repeat("x", 1000):     at(api.ErrDate, 2),
		"1 Jan " + strings.Repeat("1", 1000): at(api.ErrDate, 6),
	} {
		if d, e := date.Parse(s); d != (api.Date{}) || e != want {
			t.Errorf("Parse(%q): %v, %v, want %v", s, d, e, want)
		}
		ask(t, s)
	}
}

// P6.8: what may stand otherwise than it is written.
func TestParseRight(t *testing.T) {
	noon := api.Date{Year: 2000, Month: 1, Day: 1, Hour: 12}
	in := func(zone int16) api.Date { d := noon; d.Zone = zone; return d }
	of := func(year int16) api.Date { d := noon; d.Year = year; return d }
	for s, want := range map[string]api.Date{
		"1 Jan 2000 12:00 Z":                                noon,
		"01 jan 2000 12:00:00 z":                            noon,
		"\t \t1 \tJAN\t\t2000 \t 12:00\t+0000\t ":           noon,
		"Sat,1 Jan 2000 12:00 UT":                           noon,
		" sAt, \t1 jAN 2000 12:00 gMt":                      noon,
		"1 Jan 00 12:00 -0000":                              noon,
		"1 Jan 100 12:00 A":                                 noon,
		"1 Jan 2000 12:00 Z()":                              noon,
		"1 Jan 2000 12:00 Z\t( !\"#[]^~)\t":                 noon,
		"1 Jan 2000 12:00 +0000(a, b; <c>) ":                noon,
		"1 Jan 2000 12:00 +0000" + strings.Repeat("\t", 99): noon,
		"1 Jan 2000 12:00 EST":                              in(-300),
		"1 Jan 2000 12:00 edt":                              in(-240),
		"1 Jan 2000 12:00 CST":                              in(-360),
		"1 Jan 2000 12:00 CdT":                              in(-300),
		"1 Jan 2000 12:00 MST":                              in(-420),
		"1 Jan 2000 12:00 MDT":                              in(-360),
		"1 Jan 2000 12:00 PST":                              in(-480),
		"1 Jan 2000 12:00 PDT":                              in(-420),
		"1 Jan 2000 12:00 +0001":                            in(1),
		"1 Jan 2000 12:00 -0001":                            in(-1),
		"1 Jan 2000 12:00 +2359":                            in(1439),
		"1 Jan 2000 12:00 -2359":                            in(-1439),
		"1 Jan 49 12:00 Z":                                  of(2049),
		"1 Jan 50 12:00 Z":                                  of(1950),
		"1 Jan 99 12:00 Z":                                  of(1999),
		"1 Jan 000 12:00 Z":                                 of(1900),
		"1 Jan 049 12:00 Z":                                 of(1949),
		"1 Jan 050 12:00 Z":                                 of(1950),
		"1 Jan 999 12:00 Z":                                 of(2899),
		"1 Jan 0001 12:00 Z":                                of(1),
		"1 Jan 0049 12:00 Z":                                of(49),
		"1 Jan 9999 12:00 Z":                                of(9999),
	} {
		if d, e := date.Parse(s); d != want || e != (api.Spot{}) {
			t.Errorf("Parse(%q): %v, %v, want %v", s, d, e, want)
		}
		ask(t, s)
	}
}

// P6.8: every zone of one, two and three letters, in capitals and small letters, and of all digits.
func TestParseEveryZone(t *testing.T) {
	const letters = "abcdefghijklmnopqrstuvwxyz"
	for _, a := range letters + strings.ToUpper(letters) {
		ask(t, "1 Jan 2000 12:00 "+string(a))
	}
	count := 0
	for _, a := range letters {
		for _, b := range letters {
			ask(t, "1 Jan 2000 12:00 "+string(a)+string(b))
			for _, c := range letters {
				if ask(t, "1 Jan 2000 12:00 "+string(a)+strings.ToUpper(string(b))+string(c)).Err == api.OK {
					count++
				}
			}
		}
	}
	if count != 9 {
		t.Errorf("%d zones of three letters", count)
	}
	for n := range 10000 {
		digits := strconv.Itoa(10000 + n)[1:]
		ask(t, "1 Jan 2000 12:00 +"+digits)
		ask(t, "1 Jan 2000 12:00 -"+digits)
	}
}

// P6.8: every number of each part's widths, each weekday with days of a week, each month.
func TestParseEveryNumber(t *testing.T) {
	for width := 1; width <= 5; width++ {
		for n := range 10000 {
			digits := strconv.Itoa(100000 + n)[1:][5-width:]
			ask(t, "29 Feb "+digits+" 12:00 Z")
			if n < 100 {
				ask(t, digits+" Feb 2000 12:00 Z")
				ask(t, "1 Feb 2000 "+digits+":00 Z")
				ask(t, "1 Feb 2000 00:"+digits+" Z")
				ask(t, "1 Feb 2000 00:00:"+digits+" Z")
			}
		}
	}
	for _, w := range []string{"Sun", "mon", "TUE", "wEd", "thU", "Fri", "sat", "Sin", "day"} {
		for _, m := range []string{"Jan", "feb", "MAR", "aPR", "May", "juN", "Jul", "Aug", "sep", "OCT", "Nov", "Dec", "Jon"} {
			for k := range 33 {
				ask(t, w+", "+strconv.Itoa(k)+" "+m+" 2023 12:00 Z")
			}
		}
	}
}

// samples are texts that are dates, of every form.
var samples = []string{
	"Tue, 29 Feb 2000 03:04:05 -0130",
	" tue,\t9  MAY 00 03:04 gmt (all is (well",
	"1 Jan 101 00:00 z\t(x) ",
	"31 Dec 9999 23:59:59 +2359(y)",
}

// P6.8: every byte at every place of each sample, in the stead of what is there, beside it, and away.
func TestParseEveryByteAnywhere(t *testing.T) {
	for _, s := range samples {
		for i := 0; i <= len(s); i++ {
			ask(t, s[:i])
			ask(t, s[i:])
			for b := range 256 {
				ask(t, s[:i]+string([]byte{byte(b)})+s[i:])
				if i < len(s) {
					ask(t, s[:i]+string([]byte{byte(b)})+s[i+1:])
				}
			}
			for j := i; j <= len(s); j++ {
				ask(t, s[:i]+s[j:])
			}
		}
	}
}

// P6.8: texts put together from pieces, most of which fit.
func TestParseOfPieces(t *testing.T) {
	lists := [][]string{
		{"", "", " ", "\t "}, {"", "", "", "Tue,", "tue", "Wed,", "We,", "Fri, "}, {"", " "},
		{"29", "9", "31", "0", "030", ""}, {" ", "  ", "\t", ""}, {"Feb", "may", "JAN", "Dec", "Nov", "Mai", ""},
		{" ", "\t\t", ""}, {"2000", "00", "49", "50", "100", "1999", "0000", "9", "20000"}, {" ", " ", ""},
		{"03:04", "23:59:59", "24:00", "1:00", "00:60", "00:00:", "00:00:60", "", "00"}, {" ", "\t", ""},
		{"+0000", "-0130", "+2400", "-0060", "GMT", "est", "J", "Z", "+", ""}, {"", " ", "  "},
		{"", "", "(x)", "( )", "(", "(x\\)", "()x"}, {"", " ", "x"},
	}
	random := rand.New(rand.NewSource(6))
	whole := 0
	for range 60000 {
		var s strings.Builder
		for _, list := range lists {
			pick := random.Intn(len(list))
			if random.Intn(3) > 0 {
				pick = 0
			}
			s.WriteString(list[pick])
		}
		if ask(t, s.String()).Err == api.OK {
			whole++
		}
	}
	if whole < 1000 {
		t.Errorf("only %d texts were dates", whole)
	}
}

// P6.9, P7: what is read and written again is read as the same.
func TestReadAndWrittenAgain(t *testing.T) {
	for _, s := range []string{"29 Feb 00 03:04 gmt (all is well)", "\t1 Jan 0001 00:00 +2359", "31 Dec 9999 23:59:59 -2359 ",
		"Sat,1 Jan 2000 12:00 pst", "9 may 999 00:00 A"} {
		d, e := date.Parse(s)
		if e != (api.Spot{}) {
			t.Fatalf("Parse(%q): %v", s, e)
		}
		written, f := date.Print(d)
		if again, e := date.Parse(written); f != api.OK || e != (api.Spot{}) || again != d {
			t.Errorf("%q is %v, written %q, read as %v", s, d, written, again)
		}
	}
}

// R2: what was asked ahead changes nothing.
func TestNothingIsLeftBehind(t *testing.T) {
	for range 3 {
		for _, s := range samples {
			ask(t, s)
		}
	}
}
