package date_test

import (
	"math"
	"math/big"
	"testing"
	"time"

	"posthorn/api"
	"posthorn/date"
)

const (
	firstDay = -719162
	lastDay  = 2932896
)

type day struct {
	year       int16
	month, day int8
}

// lastOf is a month's last day, in the chapter's words.
func lastOf(year, month int) int {
	switch month {
	case 4, 6, 9, 11:
		return 30
	case 2:
		if year%4 == 0 && (year%100 != 0 || year%400 == 0) {
			return 29
		}
		return 28
	}
	return 31
}

// isDay tells whether it is a day, in the chapter's words.
func isDay(year, month, d int) bool {
	return 1 <= year && year <= 9999 && 1 <= month && month <= 12 && 1 <= d && d <= lastOf(year, month)
}

// next is the day behind a day.
func next(d day) day {
	switch {
	case int(d.day) < lastOf(int(d.year), int(d.month)):
		return day{d.year, d.month, d.day + 1}
	case d.month < 12:
		return day{d.year, d.month + 1, 1}
	}
	return day{d.year + 1, 1, 1}
}

// P6.1, P6.2, P6.3, P6.9, P6.10: every day that there is, one behind the other from the first one.
func TestEveryDay(t *testing.T) {
	d := day{1, 1, 1}
	weekday := int8(1)
	for n := int64(firstDay); n <= lastDay; n++ {
		if got, e := date.Days(d.year, d.month, d.day); got != n || e != api.OK {
			t.Fatalf("Days(%v): %d, %d, want %d", d, got, e, n)
		}
		if y, m, k, e := date.Civil(n); (day{y, m, k}) != d || e != api.OK {
			t.Fatalf("Civil(%d): %d, %d, %d, %d, want %v", n, y, m, k, e, d)
		}
		if n == 0 && d != (day{1970, 1, 1}) {
			t.Fatalf("day 0 is %v", d)
		}
		if got := date.Weekday(n); got != weekday {
			t.Fatalf("Weekday(%d): %d, want %d", n, got, weekday)
		}
		weekday = (weekday + 1) % 7
		d = next(d)
	}
	if d != (day{10000, 1, 1}) {
		t.Errorf("behind the last day lies %v", d)
	}
}

// P6.1: days that there are and that there are not, all days of all months around the years that matter.
func TestDaysWhatIsADay(t *testing.T) {
	years := []int16{math.MinInt16, -400, -4, -1, 0, 1, 2, 3, 4, 5, 99, 100, 101, 104, 200, 300, 400, 401, 1582, 1600,
		1700, 1800, 1899, 1900, 1904, 1969, 1970, 1971, 1999, 2000, 2001, 2023, 2024, 2025, 2100, 2400, 9600, 9900,
		9996, 9998, 9999, 10000, 10001, math.MaxInt16}
	for _, y := range years {
		for m := math.MinInt8; m <= math.MaxInt8; m++ {
			for k := math.MinInt8; k <= math.MaxInt8; k++ {
				n, e := date.Days(y, int8(m), int8(k))
				if !isDay(int(y), m, k) {
					if n != 0 || e != api.ErrDate {
						t.Fatalf("Days(%d, %d, %d): %d, %d, want ErrDate", y, m, k, n, e)
					}
					continue
				}
				// The library's calendar is reckoned in another way.
				want := time.Date(int(y), time.Month(m), k, 0, 0, 0, 0, time.UTC).Unix() / 86400
				if n != want || e != api.OK {
					t.Fatalf("Days(%d, %d, %d): %d, %d, want %d", y, m, k, n, e, want)
				}
			}
		}
	}
}

// P6.1: every year, at its ends, around February's end, and one past each.
func TestDaysOfAllYears(t *testing.T) {
	for y := math.MinInt16; y <= math.MaxInt16; y++ {
		for _, c := range [][2]int8{{0, 1}, {1, 0}, {1, 1}, {1, 31}, {1, 32}, {2, 28}, {2, 29}, {2, 30}, {3, 1}, {12, 31},
			{12, 32}, {13, 1}} {
			n, e := date.Days(int16(y), c[0], c[1])
			if ok := isDay(y, int(c[0]), int(c[1])); ok != (e == api.OK) || !ok && (e != api.ErrDate || n != 0) {
				t.Fatalf("Days(%d, %d, %d): %d, %d", y, c[0], c[1], n, e)
			}
		}
	}
}

// P6.2, R4: numbers past the ends.
func TestCivilPastTheEnds(t *testing.T) {
	for _, n := range []int64{math.MinInt64, math.MinInt64 + 1, -1 << 53, -1 << 32, -1 << 31, firstDay - 146097, firstDay - 366,
		firstDay - 2, firstDay - 1, lastDay + 1, lastDay + 2, lastDay + 366, 1<<31 - 1, 1 << 32, 1 << 53, math.MaxInt64 - 1,
		math.MaxInt64} {
		if y, m, d, e := date.Civil(n); y != 0 || m != 0 || d != 0 || e != api.ErrRange {
			t.Errorf("Civil(%d): %d, %d, %d, %d", n, y, m, d, e)
		}
	}
	for n, want := range map[int64]day{firstDay: {1, 1, 1}, lastDay: {9999, 12, 31}, -365: {1969, 1, 1}, -366: {1968, 12, 31},
		364: {1970, 12, 31}, 365: {1971, 1, 1}} {
		if y, m, d, e := date.Civil(n); (day{y, m, d}) != want || e != api.OK {
			t.Errorf("Civil(%d): %d, %d, %d, %d, want %v", n, y, m, d, e, want)
		}
	}
}

// P6.3: the week goes on both ways, to the ends of the kind.
func TestWeekdayOfAnyNumber(t *testing.T) {
	ask := func(n int64) {
		sum := new(big.Int).Add(big.NewInt(n), big.NewInt(4))
		want := int8(sum.Mod(sum, big.NewInt(7)).Int64())
		if got := date.Weekday(n); got != want {
			t.Fatalf("Weekday(%d): %d, want %d", n, got, want)
		}
	}
	for i := range int64(100) {
		for _, n := range []int64{-50 + i, math.MinInt64 + i, math.MaxInt64 - i, lastDay - 50 + i, firstDay - 50 + i, 1<<31 - 50 + i} {
			ask(n)
		}
	}
}

// good is a date that may be, to be spoilt part by part.
var good = api.Date{Year: 2024, Month: 2, Day: 29, Hour: 1, Minute: 2, Second: 3, Zone: 4}

// judged is Check, in the chapter's words.
func judged(d api.Date) api.Errno {
	switch {
	case !isDay(int(d.Year), int(d.Month), int(d.Day)):
		return api.ErrDate
	case d.Hour < 0 || d.Hour > 23 || d.Minute < 0 || d.Minute > 59 || d.Second < 0 || d.Second > 59:
		return api.ErrDate
	case d.Zone < -1439 || d.Zone > 1439:
		return api.ErrZone
	}
	return api.OK
}

// someDates has dates, each part of which is at its ends, past them, or in between.
func someDates() []api.Date {
	var out []api.Date
	small := []int8{math.MinInt8, -1, 0, 1, 12, 13, 23, 24, 28, 29, 30, 31, 32, 59, 60, math.MaxInt8}
	for v := math.MinInt8; v <= math.MaxInt8; v++ {
		for part := range 5 {
			d := good
			*[]*int8{&d.Month, &d.Day, &d.Hour, &d.Minute, &d.Second}[part] = int8(v)
			out = append(out, d)
		}
	}
	for v := math.MinInt16; v <= math.MaxInt16; v += 7 {
		d, z := good, good
		d.Year, z.Zone = int16(v), int16(v)
		out = append(out, d, z)
	}
	for _, y := range []int16{math.MinInt16, 0, 1, 1900, 2000, 9999, 10000, math.MaxInt16} {
		for _, z := range []int16{math.MinInt16, -1440, -1439, 0, 1439, 1440, math.MaxInt16} {
			for _, a := range small {
				for _, b := range small {
					out = append(out, api.Date{Year: y, Month: a, Day: b, Zone: z},
						api.Date{Year: y, Month: 1, Day: 1, Hour: a, Minute: b, Zone: z},
						api.Date{Year: y, Month: 12, Day: 31, Minute: a, Second: b, Zone: z},
						api.Date{Year: y, Month: 6, Day: a, Hour: b, Second: a, Zone: z})
				}
			}
		}
	}
	return out
}

// P6.4, P6.6, P6.7, R4, R5: each part at its ends and past them, and several faults at once; Seconds and
// Print answer Check's error.
func TestCheck(t *testing.T) {
	counts := map[api.Errno]int{}
	for _, d := range someDates() {
		want := judged(d)
		counts[want]++
		if e := date.Check(d); e != want {
			t.Fatalf("Check(%v): %d, want %d", d, e, want)
		}
		n, e := date.Seconds(d)
		if e != want || e != api.OK && n != 0 {
			t.Fatalf("Seconds(%v): %d, %d, want %d", d, n, e, want)
		}
		s, e := date.Print(d)
		if e != want || (e == api.OK) != (s != "") {
			t.Fatalf("Print(%v): %q, %d, want %d", d, s, e, want)
		}
	}
	if counts[api.OK] < 1000 || counts[api.ErrDate] < 1000 || counts[api.ErrZone] < 1000 {
		t.Errorf("the dates are one-sided: %v", counts)
	}
	if e := date.Check(api.Date{}); e != api.ErrDate {
		t.Errorf("Check of the zero date: %d", e)
	}
}

// asTime is a date as the library has it.
func asTime(d api.Date) time.Time {
	return time.Date(int(d.Year), time.Month(d.Month), int(d.Day), int(d.Hour), int(d.Minute), int(d.Second), 0,
		time.FixedZone("", int(d.Zone)*60))
}

// P6.6, P6.7, P6.9: of dates that may be: their second, their text, and the way back from both.
func TestThereAndBack(t *testing.T) {
	for _, d := range someDates() {
		if judged(d) != api.OK {
			continue
		}
		n, e := date.Seconds(d)
		if want := asTime(d).Unix(); n != want || e != api.OK {
			t.Fatalf("Seconds(%v): %d, %d, want %d", d, n, e, want)
		}
		if back, e := date.Of(n, d.Zone); back != d || e != api.OK {
			t.Fatalf("Of(%d, %d): %v, %d, want %v", n, d.Zone, back, e, d)
		}
		s, e := date.Print(d)
		want := asTime(d).Format("Mon, 2 Jan 2006 15:04:05 -0700")
		if s != want || e != api.OK {
			t.Fatalf("Print(%v): %q, %d, want %q", d, s, e, want)
		}
		if back, spot := date.Parse(s); back != d || spot != (api.Spot{}) {
			t.Fatalf("Parse(%q): %v, %v, want %v", s, back, spot, d)
		}
	}
}

// P6.7, P7: every weekday, month, day, hour, minute, second and zone has its text, and is read from it.
func TestPrintOfEachPart(t *testing.T) {
	at := int64(-62135596800 + 86400)
	for i := range int64(30000) {
		zone := int16(i%2879 - 1439)
		d, e := date.Of(at+i*8433601+i, zone)
		if e != api.OK {
			t.Fatalf("Of(%d, %d): %d", at+i*8433601+i, zone, e)
		}
		s, e := date.Print(d)
		if want := asTime(d).Format("Mon, 2 Jan 2006 15:04:05 -0700"); s != want || e != api.OK {
			t.Fatalf("Print(%v): %q, %d, want %q", d, s, e, want)
		}
		if back, spot := date.Parse(s); back != d || spot != (api.Spot{}) {
			t.Fatalf("Parse(%q): %v, %v", s, back, spot)
		}
	}
}

// P6.5, R4, R7: around the first and the last second of every zone, and the ends of the kind.
func TestOfAtTheEnds(t *testing.T) {
	const first, last = firstDay * 86400, lastDay*86400 + 86399
	for zone := int64(-1439); zone <= 1439; zone++ {
		low, high := first-60*zone, last-60*zone
		for _, c := range []struct {
			second int64
			ok     bool
		}{
			{low, true}, {low + 1, true}, {high - 1, true}, {high, true}, {low - 1, false}, {high + 1, false},
			{low - 86400, false}, {high + 86400, false}, {math.MinInt64, false}, {math.MaxInt64, false},
			{math.MinInt64 + 86340, false}, {math.MaxInt64 - 86340, false}, {0, true}, {-1, true}, {1, true},
		} {
			d, e := date.Of(c.second, int16(zone))
			if !c.ok {
				if e != api.ErrRange || d != (api.Date{}) {
					t.Fatalf("Of(%d, %d): %v, %d, want ErrRange", c.second, zone, d, e)
				}
				continue
			}
			if n, f := date.Seconds(d); e != api.OK || int64(d.Zone) != zone || n != c.second || f != api.OK {
				t.Fatalf("Of(%d, %d): %v, %d; its second: %d, %d", c.second, zone, d, e, n, f)
			}
		}
	}
	if d, e := date.Of(first, 0); e != api.OK || d != (api.Date{Year: 1, Month: 1, Day: 1}) {
		t.Errorf("the first second: %v, %d", d, e)
	}
}

// P6.5, R5: zones past the ends, ahead of seconds past theirs.
func TestOfWrongZones(t *testing.T) {
	for zone := math.MinInt16; zone <= math.MaxInt16; zone++ {
		for _, second := range []int64{0, math.MinInt64, math.MaxInt64} {
			d, e := date.Of(second, int16(zone))
			switch {
			case zone < -1439 || zone > 1439:
				if e != api.ErrZone || d != (api.Date{}) {
					t.Fatalf("Of(%d, %d): %v, %d, want ErrZone", second, zone, d, e)
				}
			case second == 0:
				if e != api.OK {
					t.Fatalf("Of(0, %d): %d", zone, e)
				}
			case e != api.ErrRange || d != (api.Date{}):
				t.Fatalf("Of(%d, %d): %v, %d, want ErrRange", second, zone, d, e)
			}
		}
	}
}

// P6.5: seconds around 0 and around midnights, as the library has them.
func TestOfAgainstTheLibrary(t *testing.T) {
	for _, zone := range []int16{-1439, -720, -61, -1, 0, 1, 60, 719, 1439} {
		for _, mid := range []int64{0, -86400, 86400, 951782400, -62135424000, 253402128000, -2208988800} {
			for i := int64(-150); i <= 150; i++ {
				second := mid + i
				d, e := date.Of(second, zone)
				want := time.Unix(second, 0).In(time.FixedZone("", int(zone)*60))
				if e != api.OK || d.Zone != zone || !asTime(d).Equal(want) || int(d.Day) != want.Day() || int(d.Hour) != want.Hour() {
					t.Fatalf("Of(%d, %d): %v, %d, want %v", second, zone, d, e, want)
				}
			}
		}
	}
}

// parts are a date's parts ahead of its zone, in the order in which they are compared.
func parts(d api.Date) [6]int {
	return [6]int{int(d.Year), int(d.Month), int(d.Day), int(d.Hour), int(d.Minute), int(d.Second)}
}

// P6.11: of two dates of one zone the lesser has the lesser second.
func TestOrder(t *testing.T) {
	var dates []api.Date
	for _, d := range someDates() {
		if judged(d) == api.OK && len(dates) < 20000 {
			dates = append(dates, d)
		}
	}
	for i := range dates {
		for j := 1; j < 40; j++ {
			a, b := dates[i], dates[(i*31+j*977)%len(dates)]
			b.Zone = a.Zone
			m, _ := date.Seconds(a)
			n, _ := date.Seconds(b)
			p, q := parts(a), parts(b)
			less := false
			for k := range p {
				if p[k] != q[k] {
					less = p[k] < q[k]
					break
				}
			}
			if less != (m < n) || (p == q) != (m == n) {
				t.Fatalf("%v has %d, %v has %d", a, m, b, n)
			}
		}
	}
}

// P6.12: one second in every zone is one second.
func TestOneMoment(t *testing.T) {
	for _, second := range []int64{0, -1, 1, 951798845, -62135510400, 253402214399, -1234567890123 / 100} {
		for zone := int16(-1439); zone <= 1439; zone++ {
			d, e := date.Of(second, zone)
			if e != api.OK {
				t.Fatalf("Of(%d, %d): %d", second, zone, e)
			}
			if n, e := date.Seconds(d); n != second || e != api.OK || d.Zone != zone {
				t.Fatalf("Seconds(%v): %d, %d, want %d", d, n, e, second)
			}
			other, e := date.Of(second, -zone)
			if n, f := date.Seconds(other); e != api.OK || f != api.OK || n != second {
				t.Fatalf("Seconds(%v): %d, %d, want %d", other, n, f, second)
			}
		}
	}
}
