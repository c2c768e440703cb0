package date

import (
	"posthorn/api"
	"posthorn/octet"
)

// The names, three letters each, one behind the other: a name's place tells which it is.
const (
	weekdays = "SunMonTueWedThuFriSat"
	months   = "JanFebMarAprMayJunJulAugSepOctNovDec"
)

// zoneNames has the zones of more than one letter.
var zoneNames = [...]struct {
	name string
	zone int16
}{
	{"UT", 0}, {"GMT", 0},
	{"EST", -300}, {"EDT", -240},
	{"CST", -360}, {"CDT", -300},
	{"MST", -420}, {"MDT", -360},
	{"PST", -480}, {"PDT", -420},
}

// Print writes a date as mail has it.
func Print(d api.Date) (string, api.Errno) {
	if e := Check(d); e != api.OK {
		return "", e
	}
	days, e := Days(d.Year, d.Month, d.Day)
	sign, zone := "+", d.Zone
	if zone < 0 {
		sign, zone = "-", -zone
	}
	return name(weekdays, Weekday(days)) + ", " + padded(int16(d.Day), 1) + " " + name(months, d.Month-1) +
		" " + padded(d.Year, 4) + " " + padded(int16(d.Hour), 2) + ":" + padded(int16(d.Minute), 2) +
		":" + padded(int16(d.Second), 2) + " " + sign + padded(zone/60, 2) + padded(zone%60, 2), e
}

// name is the one at that place of a row of names.
func name(names string, at int8) string { return names[3*int(at) : 3*int(at)+3] }

// padded is a number, not below 0, with noughts ahead of it up to that width.
func padded(n int16, width int) string {
	s := octet.Decimal(uint64(n))
	for len(s) < width {
		s = "0" + s
	}
	return s
}

// Parse reads it.
func Parse(s string) (api.Date, api.Spot) {
	r := reader{s: s}
	weekday := r.weekday()
	dayAt := r.at
	day := r.number(1, 2)
	r.gap()
	month := r.month()
	r.gap()
	year := r.year()
	r.gap()
	d := api.Date{Year: year, Month: month, Day: int8(day)}
	d.Hour, d.Minute, d.Second = r.time()
	r.gap()
	zoneAt := r.at
	d.Zone = r.zone()
	r.end()
	if r.fault.Err != api.OK {
		return api.Date{}, r.fault
	}
	return judge(d, weekday, dayAt, zoneAt)
}

// judge asks of a date, read whole, whether it may be, and whether it has the weekday that was named
// (below 0: none was).
func judge(d api.Date, weekday int8, dayAt, zoneAt int) (api.Date, api.Spot) {
	days, _ := Days(d.Year, d.Month, d.Day)
	e := Check(d)
	if e == api.ErrDate || weekday >= 0 && weekday != Weekday(days) {
		return api.Date{}, api.Spot{Err: api.ErrDate, At: dayAt}
	}
	if e != api.OK {
		return api.Date{}, api.Spot{Err: e, At: zoneAt}
	}
	return d, api.Spot{}
}

// reader goes through a text from the left. With the first fault it stands at the text's end, where
// nothing stands: so the parts behind a fault are asked for as others are, and find nothing.
type reader struct {
	s     string
	at    int
	fault api.Spot
}

// fail notes a fault, if it is the first.
func (r *reader) fail(e api.Errno, at int) {
	if r.fault.Err == api.OK {
		r.fault = api.Spot{Err: e, At: at}
	}
	r.at = len(r.s)
}

// stands tells whether a byte stands here.
func (r *reader) stands(b byte) bool { return r.at < len(r.s) && r.s[r.at] == b }

// row takes the bytes of a class that stand here.
func (r *reader) row(class int) string {
	from := r.at
	r.at = octet.Span(class, r.s, from)
	return r.s[from:r.at]
}

// free takes a gap that may be missing.
func (r *reader) free() {
	for r.stands(' ') || r.stands('\t') {
		r.at++
	}
}

// gap takes a gap that has to be there.
func (r *reader) gap() {
	from := r.at
	r.free()
	if r.at == from {
		r.fail(api.ErrDate, from)
	}
}

// mark takes a byte that has to stand here.
func (r *reader) mark(b byte) {
	if !r.stands(b) {
		r.fail(api.ErrDate, r.at)
		return
	}
	r.at++
}

// number takes a row of least to most digits; most is at most 4, so that what they say is an int16.
func (r *reader) number(least, most int) int16 {
	from := r.at
	s := r.row(octet.Digit)
	if len(s) < least || len(s) > most {
		r.fail(api.ErrDate, from)
		return 0
	}
	n, _ := octet.Number(s, lastYear)
	return int16(n)
}

// named takes a row of letters that is one of the names, and tells which.
func (r *reader) named(names string) int8 {
	from := r.at
	s := r.row(octet.Alpha)
	for i := range int8(len(names) / 3) {
		if len(s) == 3 && octet.Same(s, name(names, i)) {
			return i
		}
	}
	r.fail(api.ErrDate, from)
	return 0
}

// weekday takes what may stand ahead of the day; below 0: no weekday is named.
func (r *reader) weekday() int8 {
	r.free()
	if octet.Span(octet.Alpha, r.s, r.at) == r.at {
		return -1
	}
	weekday := r.named(weekdays)
	r.mark(',')
	r.free()
	return weekday
}

// month takes a month's name.
func (r *reader) month() int8 { return r.named(months) + 1 }

// year takes a year, which may be said in short.
func (r *reader) year() int16 {
	from := r.at
	n := r.number(2, 4)
	switch digits := r.at - from; {
	case digits == 2 && n < 50:
		return n + 2000
	case digits < 4:
		return n + 1900
	}
	return n
}

// time takes hour, minute and, if it is said, second.
func (r *reader) time() (hour, minute, second int8) {
	hour = int8(r.number(2, 2))
	r.mark(':')
	minute = int8(r.number(2, 2))
	if r.stands(':') {
		r.at++
		second = int8(r.number(2, 2))
	}
	return hour, minute, second
}

// zone takes a zone, in digits or by its name.
func (r *reader) zone() int16 {
	from := r.at
	var zone int16
	var ok bool
	if r.stands('+') || r.stands('-') {
		below := r.stands('-')
		r.at++
		zone, ok = zoneOfDigits(r.row(octet.Digit))
		if below {
			zone = -zone
		}
	} else {
		zone, ok = zoneOfName(r.row(octet.Alpha))
	}
	if !ok {
		r.fail(api.ErrZone, from)
	}
	return zone
}

// zoneOfDigits is what hours and minutes say, two digits each.
func zoneOfDigits(s string) (int16, bool) {
	if len(s) != 4 {
		return 0, false
	}
	hours, _ := octet.Number(s[:2], 99)
	minutes, e := octet.Number(s[2:], 59)
	return int16(60*hours + minutes), e == api.OK
}

// zoneOfName is the zone that letters name.
func zoneOfName(s string) (int16, bool) {
	if len(s) == 1 {
		return 0, !octet.Same(s, "J")
	}
	for _, row := range zoneNames {
		if len(s) == len(row.name) && octet.Same(s, row.name) {
			return row.zone, true
		}
	}
	return 0, false
}

// end takes what may stand behind the zone: a remark, and blanks around it.
func (r *reader) end() {
	r.free()
	if r.stands('(') {
		r.remark()
		r.free()
	}
	if r.at < len(r.s) {
		r.fail(api.ErrDate, r.at)
	}
}

// remark takes the bracket that stands here, and all up to the one that ends it.
func (r *reader) remark() {
	from := r.at
	r.at++
	for r.at < len(r.s) && inRemark(r.s[r.at]) {
		r.at++
	}
	if !r.stands(')') {
		r.fail(api.ErrDate, from)
		return
	}
	r.at++
}

// inRemark tells whether a byte may stand between a remark's brackets.
func inRemark(b byte) bool {
	return b != '(' && b != ')' && b != '\\' && b != '\t' && octet.Is(octet.Shown, b)
}
