package field_test

import (
	"math/rand"
	"slices"
	"strings"
	"testing"

	"posthorn/api"
)

// parts are what messages are made of: all bytes that Parse tells from one another.
var parts = []string{"\r", "\n", " ", ":", "a", "\xe9"}

// P16.1: all short messages.
func TestAllShortMessages(t *testing.T) {
	told := map[api.Errno]int{}
	eachText(parts, 7, func(s string) { told[agreeParse(t, s).spot.Err]++ })
	if told[api.OK] == 0 || told[api.ErrField] == 0 || told[api.ErrFold] == 0 {
		t.Fatalf("not all kinds came: %v", told)
	}
}

// P16.1: all messages of a few whole rows and what may stand between them.
func TestAllRows(t *testing.T) {
	pieces := []string{"\r\n", "\r\n", "A:", "b", " ", "\t", ":", "\r", "\n", "\x00", "\x7f"}
	eachText(pieces, 5, func(s string) {
		for _, ahead := range []string{"", "A:1\r\n", "A:1\r\n x\r\n"} {
			agreeParse(t, ahead+s)
			agreeParse(t, ahead+s+"\r\n")
		}
	})
}

// kinds are rows of every kind, as they stand at a place where a row may begin.
var kinds = []struct {
	row string
	e   api.Errno
	at  int // how far from the row's beginning what is wrong stands; if nothing is: how far the body stands, or -1
}{
	{"", api.OK, 0}, {"\r\n", api.OK, 2}, {"\r\nA\r\n", api.OK, 2}, {"\r\n\r\n", api.OK, 2}, {"\r\n\n", api.OK, 2}, {"\r\n x", api.OK, 2},
	{"B:\r\n", api.OK, -1}, {"B: 2\r\n", api.OK, -1}, {"B::\r\n", api.OK, -1}, {"!~:\xff\x00\x7f\r\n", api.OK, -1}, {"B:2\r\n ", api.ErrField, 6}, {"B:2\r\n x\r\n", api.OK, -1},
	{"\r", api.ErrField, 0}, {"\n", api.ErrField, 0}, {"\r\r\n", api.ErrField, 0}, {"\n\r\n", api.ErrField, 0}, {"\rB:2\r\n", api.ErrField, 0}, {"\nB:2\r\n", api.ErrField, 0},
	{"B:2", api.ErrField, 3}, {"B:2\r", api.ErrField, 3}, {"B:2\n", api.ErrField, 3}, {"B:2\r\r\n", api.ErrField, 3}, {"B:2\n\r\n", api.ErrField, 3}, {"B:2\rC:3\r\n", api.ErrField, 3}, {"B:2\nC:3\r\n", api.ErrField, 3},
	{"B", api.ErrField, 1}, {"B\r", api.ErrField, 1}, {"B\n2\r\n", api.ErrField, 1}, {"B\r2:\r\n", api.ErrField, 1},
	{"B\r\n", api.ErrField, 1}, {"BCD\r\n:\r\n", api.ErrField, 3}, {":\r\n", api.ErrField, 0}, {":B:\r\n", api.ErrField, 0}, {"::\r\n", api.ErrField, 0},
	{"B C:\r\n", api.ErrField, 1}, {"BC\t:\r\n", api.ErrField, 2}, {"B\xc3\xa9:\r\n", api.ErrField, 1}, {"\x80:\r\n", api.ErrField, 0}, {"\x7f:\r\n", api.ErrField, 0}, {"B\x00:\r\n", api.ErrField, 1}, {"\x00\r\n", api.ErrField, 0},
	{" \r\n", api.ErrFold, 0}, {"\t\r\n", api.ErrFold, 0}, {" \t \t\r\n", api.ErrFold, 0}, {strings.Repeat(" ", 998) + "\r\n", api.ErrFold, 0},
	{" ", api.ErrField, 1}, {"\t\r", api.ErrField, 1}, {"  \n", api.ErrField, 2}, {" x", api.ErrField, 2}, {" x\n\r\n", api.ErrField, 2}, {" x\r", api.ErrField, 2}, {" \r\r\n", api.ErrField, 1},
}

// P16.1: rows of every kind, as the first one, behind fields, and behind folds.
func TestKindsOfRows(t *testing.T) {
	for _, c := range kinds {
		for _, ahead := range []string{"", "A:1\r\n", "A:1\r\nb: 2\r\n", "A:1\r\n x\r\n", "A:1\r\n x\r\n\ty:\r\n"} {
			msg := ahead + c.row
			got := agreeParse(t, msg)
			switch {
			case c.e != api.OK:
				wantSpot(t, msg, c.e, len(ahead)+c.at)
			case c.at < 0 && (got.body != len(msg) || got.spot.Err != api.OK):
				t.Fatalf("%q: %v", msg, got)
			case c.at >= 0 && (got.body != len(ahead)+c.at || got.spot.Err != api.OK):
				t.Fatalf("%q: %v", msg, got)
			}
		}
	}
}

// P16.1: a row that begins with a blank as the first one, and behind a field.
func TestFoldsNeedAField(t *testing.T) {
	for _, row := range []string{" x\r\n", "\tx\r\n", "  x \r\n", " :\r\n", " A:1\r\n", " \xe9\r\n", " \x00\r\n", " \v\r\n", " " + xs(997) + "\r\n"} {
		wantSpot(t, row, api.ErrFold, 0)
		body := "1\r\n" + strings.TrimSuffix(row, "\r\n")
		wantFields(t, "A:1\r\n"+row, 5+len(row), []api.Field{{Name: "A", Body: body}})
		wantFields(t, "A:1\r\n"+row+"b:\r\n\r\n"+row, 11+len(row), []api.Field{{Name: "A", Body: body}, {Name: "b"}})
		wantFields(t, "\r\n"+row, 2, nil)
	}
}

// P16.1: every byte, first in a name, within it, behind it, in the body, and first in a fold.
func TestEveryByte(t *testing.T) {
	for b := range 256 {
		c := string([]byte{byte(b)})
		for _, around := range [][2]string{
			{"", "B:1\r\n"}, {"A", "B:1\r\n"}, {"A", ":1\r\n"}, {"A:", "\r\n"}, {"A:x", "x\r\n"}, {"A:1\r\n", "x\r\n"}, {"A:1\r\n", "B:2\r\n"}, {"A:1\r\n ", "\r\n"}, {"A:1\r\n", "\r\n"},
			{"A:1\r", "\n"}, {"A:1", "\n"}, {"A:1\r", ""}, {"A:1\r\n", ""}, {"", ""}, {"A:1\r\n\r", "\n"}, {"A:1\r\n\r\n", ""},
		} {
			agreeParse(t, around[0]+c+around[1])
		}
		if in := b > 32 && b < 127 && b != ':'; in {
			wantFields(t, "A"+c+"B:1\r\n", 7, []api.Field{{Name: "A" + c + "B", Body: "1"}})
			wantFields(t, c+":1\r\n", 5, []api.Field{{Name: c, Body: "1"}})
		}
	}
}

// P16.1: rows of 997, 998 and 999 bytes, with and without what else is wrong with them. A long row comes
// ahead of all else that could be said of it.
func TestLongRows(t *testing.T) {
	begins := []string{"A:", "A", ":", " ", "\t", " A:", "A B:", "\xe9:", "\x00"}
	ends := []string{"\r\n", "", "\r", "\n", "\r\r\n", "\n\r\n", "\rx\r\n", "\r\n\r\n", "\r\n x\r\n", "\r\n \r\n"}
	for _, ahead := range []string{"", "B:2\r\n", "B:2\r\n y\r\n"} {
		for _, begin := range begins {
			for _, fill := range []string{"x", " ", ":", "\xff"} {
				for _, n := range []int{996, 997, 998, 999, 1000, 1996, 5000} {
					for _, end := range ends {
						msg := ahead + begin + strings.Repeat(fill, n-len(begin)) + end
						agreeParse(t, msg)
						if n > 998 {
							wantSpot(t, msg, api.ErrField, len(ahead)+998)
						}
					}
				}
			}
		}
	}
}

// P16.1: a whole row's bytes count, name and all; its line end, and the rows about it, do not.
func TestWhatCountsInARow(t *testing.T) {
	wantFields(t, "A:"+xs(996)+"\r\n", 1000, fields("A", xs(996)))
	wantFields(t, xs(997)+":\r\n", 1000, fields(xs(997), ""))
	wantSpot(t, xs(998)+":\r\n", api.ErrField, 998)
	wantSpot(t, xs(998)+"\r\n", api.ErrField, 998)
	wantSpot(t, xs(997)+"\r\n", api.ErrField, 997)
	wantSpot(t, xs(998), api.ErrField, 998)
	wantSpot(t, xs(999), api.ErrField, 998)
	wantFields(t, "A:"+xs(996)+"\r\n "+xs(997)+"\r\n\t"+xs(997)+"\r\n", 3000, fields("A", xs(996)+"/ "+xs(997)+"/\t"+xs(997)))
	wantSpot(t, "A:1\r\n "+xs(998)+"\r\n", api.ErrField, 5+998)
	wantSpot(t, strings.Repeat(" ", 999)+"\r\n", api.ErrField, 998)
	wantFields(t, "\r\n"+xs(5000), 2, nil)
}

// P16.1: so many fields, and one more; and what else may be wrong with that one.
func TestManyFields(t *testing.T) {
	for _, n := range []int{4095, 4096} {
		head := strings.Repeat("A:1\r\n", n)
		want := slices.Repeat([]api.Field{{Name: "A", Body: "1"}}, n)
		wantFields(t, head, len(head), want)
		wantFields(t, head+"\r\nA:2\r\n", len(head)+2, want)
		last := slices.Clone(want)
		last[n-1].Body = "1\r\n x"
		wantFields(t, head+" x\r\n", len(head)+4, last)
		agreeParse(t, head+"B:2\r\n")
	}
	head := strings.Repeat("A:\r\n", 4096)
	wantSpot(t, head+"B:2\r\n", api.ErrField, len(head))
	wantSpot(t, head+"B:2\r\n\r\n", api.ErrField, len(head))
	wantSpot(t, head+"B:2\r\nC 3\r\n", api.ErrField, len(head))
	for _, c := range kinds {
		agreeParse(t, head+c.row)
		agreeParse(t, head+" x\r\n"+c.row)
	}
	wantSpot(t, head+"B 2\r\n", api.ErrField, len(head)+1)
	wantSpot(t, head+"BC\r\n", api.ErrField, len(head)+2)
	wantSpot(t, head+"B:2\n", api.ErrField, len(head)+3)
	wantSpot(t, head+"B:"+xs(997)+"\r\n", api.ErrField, len(head)+998)
	wantSpot(t, head+" \r\n", api.ErrFold, len(head))
	folded := strings.Repeat("A:\r\n x\r\n", 4096)
	wantSpot(t, folded+"B:\r\n", api.ErrField, len(folded))
	one := "A:" + strings.Repeat("\r\n x", 9000)
	wantFields(t, one+"\r\n", len(one)+2, []api.Field{{Name: "A", Body: one[2:]}})
}

// P16.1: the first row that is wrong is told, whatever comes behind it.
func TestTheFirstWrongRow(t *testing.T) {
	wrong := []string{" \r\n", "B\r\n", "B C:\r\n", ":\r\n", "B:\r", "B:\n", "B:" + xs(999) + "\r\n"}
	for _, a := range wrong {
		for _, b := range wrong {
			for _, between := range []string{"", "x\r\n", "\nD:4\r\n", "\r\n"} {
				msg := "A:1\r\n" + a + between + b
				agreeParse(t, msg)
				if a != "B:\r" && modelParse("A:1\r\n"+a).spot != modelParse(msg).spot {
					t.Fatalf("%q: what stands behind is told", msg)
				}
			}
		}
	}
}

// anyMessage is a message of all kinds of rows, most of them right.
func anyMessage(random *rand.Rand) string {
	right := []string{"A:", "Subject: hello", "to:\x80\xff", "x-Y_z!~:\x00", " more", "\t\tand more ", "A:" + xs(996), " " + xs(997)}
	wrong := []string{"", " ", "\t ", "none", ":x", "A B:", "\xe9:", "A:" + xs(997), " " + xs(998), "A:\rx", "A:\nx"}
	var s strings.Builder
	for range random.Intn(12) {
		if random.Intn(12) == 0 {
			s.WriteString(wrong[random.Intn(len(wrong))])
		} else {
			s.WriteString(right[random.Intn(len(right))])
		}
		if random.Intn(30) > 0 {
			s.WriteString("\r\n")
		}
	}
	return s.String()
}

// P16.1: any messages.
func TestAnyMessages(t *testing.T) {
	random := rand.New(rand.NewSource(161))
	told := map[api.Errno]int{}
	for range 30000 {
		msg := anyMessage(random)
		told[agreeParse(t, msg).spot.Err]++
		b := []byte(msg)
		for range random.Intn(3) {
			if len(b) > 0 {
				b[random.Intn(len(b))] = byte(random.Intn(256))
			}
		}
		agreeParse(t, string(b))
	}
	if told[api.OK] < 3000 || told[api.ErrField] < 3000 || told[api.ErrFold] < 1000 {
		t.Fatalf("not all kinds came often: %v", told)
	}
}
