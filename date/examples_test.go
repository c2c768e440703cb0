package date_test

import (
	"testing"

	"posthorn/api"
	"posthorn/date"
)

// The rows of the chapter's section Examples, one behind the other.

func TestExamplesDays(t *testing.T) {
	for _, c := range []struct {
		year       int16
		month, day int8
		want       int64
		e          api.Errno
	}{
		{1970, 1, 1, 0, api.OK},
		{2000, 2, 29, 11016, api.OK},
		{1900, 2, 29, 0, api.ErrDate},
		{0, 1, 1, 0, api.ErrDate},
		{2024, 13, 1, 0, api.ErrDate},
	} {
		if n, e := date.Days(c.year, c.month, c.day); n != c.want || e != c.e {
			t.Errorf("Days(%d, %d, %d): %d, %d", c.year, c.month, c.day, n, e)
		}
	}
	if y, m, d, e := date.Civil(-1); y != 1969 || m != 12 || d != 31 || e != api.OK {
		t.Errorf("Civil(-1): %d, %d, %d, %d", y, m, d, e)
	}
	if y, m, d, e := date.Civil(2932897); y != 0 || m != 0 || d != 0 || e != api.ErrRange {
		t.Errorf("Civil(2932897): %d, %d, %d, %d", y, m, d, e)
	}
}

func TestExamplesWeekday(t *testing.T) {
	for _, c := range []struct {
		days int64
		want int8
	}{{0, 4}, {-1, 3}, {11016, 2}, {9223372036854775807, 4}} {
		if got := date.Weekday(c.days); got != c.want {
			t.Errorf("Weekday(%d): %d, want %d", c.days, got, c.want)
		}
	}
}

func TestExamplesOf(t *testing.T) {
	for _, c := range []struct {
		seconds int64
		zone    int16
		want    api.Date
		e       api.Errno
	}{
		{0, 0, api.Date{Year: 1970, Month: 1, Day: 1}, api.OK},
		{-1, -60, api.Date{Year: 1969, Month: 12, Day: 31, Hour: 22, Minute: 59, Second: 59, Zone: -60}, api.OK},
		{253402300799, 0, api.Date{Year: 9999, Month: 12, Day: 31, Hour: 23, Minute: 59, Second: 59}, api.OK},
		{253402300799, 1, api.Date{}, api.ErrRange},
		{253402300799, 1440, api.Date{}, api.ErrZone},
	} {
		if d, e := date.Of(c.seconds, c.zone); d != c.want || e != c.e {
			t.Errorf("Of(%d, %d): %v, %d", c.seconds, c.zone, d, e)
		}
	}
}

func TestExamplesPrint(t *testing.T) {
	d := api.Date{Year: 2000, Month: 2, Day: 29, Hour: 3, Minute: 4, Second: 5, Zone: -90}
	if s, e := date.Print(d); s != "Tue, 29 Feb 2000 03:04:05 -0130" || e != api.OK {
		t.Errorf("Print: %q, %d", s, e)
	}
	if n, e := date.Seconds(d); n != 951798845 || e != api.OK {
		t.Errorf("Seconds: %d, %d", n, e)
	}
}

func TestExamplesParse(t *testing.T) {
	for _, c := range []struct {
		s    string
		want api.Date
		e    api.Spot
	}{
		{"29 feb 00 3:04 GMT", api.Date{}, api.Spot{Err: api.ErrDate, At: 10}},
		{"29 Feb 00 03:04 gmt (all is well)", api.Date{Year: 2000, Month: 2, Day: 29, Hour: 3, Minute: 4}, api.Spot{}},
		{"Mon, 29 Feb 2000 03:04:05 -0130", api.Date{}, api.Spot{Err: api.ErrDate, At: 5}},
		{"30 Feb 2000 03:04 Z", api.Date{}, api.Spot{Err: api.ErrDate, At: 0}},
		{"1 Jan 2000 00:00 +2400", api.Date{}, api.Spot{Err: api.ErrZone, At: 17}},
		{"1 Jan 2000 00:00 +0060", api.Date{}, api.Spot{Err: api.ErrZone, At: 17}},
		{"1 Jan 2000 00:00 J", api.Date{}, api.Spot{Err: api.ErrZone, At: 17}},
		{"1 Jan 2000 00:00", api.Date{}, api.Spot{Err: api.ErrDate, At: 16}},
		{"1 Jan 2000 00:00 Z x", api.Date{}, api.Spot{Err: api.ErrDate, At: 19}},
	} {
		if d, e := date.Parse(c.s); d != c.want || e != c.e {
			t.Errorf("Parse(%q): %v, %v, want %v, %v", c.s, d, e, c.want, c.e)
		}
	}
}
