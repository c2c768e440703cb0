package field_test

import (
	"math/rand"
	"slices"
	"strings"
	"sync"
	"testing"

	"posthorn/api"
	"posthorn/field"
)

// thereAndBack asks that what Print told of fields is read as they were, by itself and ahead of any body.
func thereAndBack(t *testing.T, l []api.Field) {
	t.Helper()
	b, e := field.Print(l)
	if e != api.OK {
		t.Fatalf("Print(%s): %d", showFields(l), e)
	}
	wantFields(t, string(b), len(b), l)
	for _, behind := range []string{"", "body", "\r\n", "\r", "\n", " x\r\n", "A 1\r\n", "A:1\r\n", "\xff\x00", xs(2000)} {
		wantFields(t, string(b)+"\r\n"+behind, len(b)+2, l)
	}
}

// P16.7: fields are printed, and read again.
func TestPrintedAndRead(t *testing.T) {
	thereAndBack(t, nil)
	for _, n := range []int{4095, 4096} {
		thereAndBack(t, slices.Repeat(fields("A", " x/ y"), n))
	}
	random := rand.New(rand.NewSource(167))
	for range 5000 {
		thereAndBack(t, anyFields(random, false))
	}
	eachText([]string{"\r\n", " ", "\t", ":", "a"}, 6, func(s string) {
		if field.Check(api.Field{Name: "A", Body: s}) == api.OK {
			thereAndBack(t, []api.Field{{Name: "A", Body: s}, {Name: "b", Body: s}})
		}
	})
}

// readAndPrinted asks that what was read of a message is written as it stood there, up to the end of the header.
func readAndPrinted(t *testing.T, msg string) bool {
	t.Helper()
	l, at, spot := field.Parse([]byte(msg))
	if spot.Err != api.OK {
		return false
	}
	b, e := field.Print(l)
	head := msg[:at]
	if string(b) != head {
		head = strings.TrimSuffix(head, "\r\n")
	}
	if string(b) != head || e != api.OK {
		t.Fatalf("%s: printed again %s, %d", short(msg), short(string(b)), e)
	}
	// The line end by itself is left out if it is there, and only then.
	if lone := at-len(b) == 2; lone != (len(b) < len(msg)) {
		t.Fatalf("%s: %d bytes printed, the body at %d", short(msg), len(b), at)
	}
	return true
}

// P16.7: messages are read, and printed again.
func TestReadAndPrinted(t *testing.T) {
	read := 0
	ask := func(msg string) {
		if readAndPrinted(t, msg) {
			read++
		}
	}
	eachText([]string{"\r\n", "A:", " ", "\t", "b", ":", "\r"}, 6, ask)
	random := rand.New(rand.NewSource(1672))
	for range 20000 {
		ask(anyMessage(random))
	}
	for _, c := range kinds {
		ask("A:1\r\n" + c.row)
	}
	ask(strings.Repeat("A:1\r\n x\r\n", 4096) + "\r\n")
	if read < 5000 {
		t.Fatalf("only %d messages could be read", read)
	}
}

// P16.8: what Fold tells Check takes, and Unfold undoes; no row is longer than asked for unless it has no joint within.
func TestFoldedAndUnfolded(t *testing.T) {
	ask := func(name, s string, most int) {
		f, e := field.Fold(name, s, most)
		if e != api.OK {
			return
		}
		wantCheck(t, f.Name, f.Body, api.OK)
		if back := field.Unfold(f.Body); f.Name != name || back != s {
			t.Fatalf("Fold(%q, %s, %d), unfolded: %s", name, short(s), most, short(back))
		}
		place := 0
		for i, row := range strings.Split(f.Body, "\r\n") {
			size := len(row)
			if i == 0 {
				size += len(name) + 1
			}
			for at := place + 1; at < place+len(row) && size > most; at++ {
				if isJoint(s, at) {
					t.Fatalf("Fold(%q, %s, %d): the row %s has a joint at %d", name, short(s), most, short(row), at)
				}
			}
			place += len(row)
		}
		wantFields(t, f.Name+":"+f.Body+"\r\n", len(f.Name)+len(f.Body)+3, []api.Field{f})
	}
	eachText([]string{" ", "\t", "a", "bc"}, 6, func(s string) {
		for most := 1; most <= 10; most++ {
			ask("To", s, most)
		}
	})
	random := rand.New(rand.NewSource(168))
	for range 10000 {
		ask(xs(1+random.Intn(20)), anyText(random), 1+random.Intn(60))
		ask("Subject", anyText(random)+anyText(random), 950+random.Intn(49))
	}
}

// P16.8: Unfold of what Unfold told is not always the same once more; of a text without CR and LF it is the text.
func TestUnfoldTwice(t *testing.T) {
	once := field.Unfold("\r\n\r\n x")
	if twice := field.Unfold(once); once != "\r\n x" || twice != " x" {
		t.Fatalf("unfolded once %q, twice %q", once, twice)
	}
	eachText([]string{" ", "\t", "a", "\xe9", "\x00", ":"}, 5, func(s string) {
		if got := field.Unfold(s); got != s {
			t.Fatalf("Unfold(%q): %q", s, got)
		}
	})
}

// P16.9: what stands behind the line end by itself changes nothing.
func TestTheHeaderAlone(t *testing.T) {
	random := rand.New(rand.NewSource(169))
	heads := []string{"", "A:\r\n", "A: 1\r\nb:2\r\n", "A:\r\n x\r\n\ty\r\n", strings.Repeat("A:1\r\n", 4096)}
	for range 200 {
		if b, e := field.Print(anyFields(random, false)); e == api.OK {
			heads = append(heads, string(b))
		}
	}
	behind := []string{"\r", "\n", "\r\n", " ", " x\r\n", "B:2\r\n", "B 2\r\n", ":\r\n", "\x00", "\xff\xfe", xs(998), xs(5000), strings.Repeat("A:\r\n", 5000)}
	for b := range 256 {
		behind = append(behind, string([]byte{byte(b)}))
	}
	for i, head := range heads {
		l, at, spot := field.Parse([]byte(head + "\r\n"))
		if at != len(head)+2 || spot != (api.Spot{}) {
			t.Fatalf("Parse(%s): %d, %v", short(head), at, spot)
		}
		for _, s := range behind {
			if i < 5 || len(s) < 1000 {
				wantFields(t, head+"\r\n"+s, at, l)
			}
		}
	}
}

// R3: what is handed in stays as it is, and so does the room behind it.
func TestHandedInStays(t *testing.T) {
	for _, msg := range []string{"A: 1\r\n x\r\nb:2\r\n\r\nbody", "A:1\r\n", "A:1\r\n \r\n", "A 1\r\n", "A:" + xs(999) + "\r\n", ""} {
		room := []byte(msg + "behind")
		field.Parse(room[:len(msg)])
		if string(room) != msg+"behind" {
			t.Fatalf("Parse(%s) left %s", short(msg), short(string(room)))
		}
	}
	for _, words := range [][]string{{"A", " 1/ x", "b", "2"}, {"A", "1", "b", "2/"}, {"b", "", "", ""}} {
		room := append(fields(words...), api.Field{Name: "behind"})
		kept := slices.Clone(room)
		field.Print(room[:len(room)-1])
		field.Find(room[:len(room)-1], "B")
		if !slices.Equal(room, kept) {
			t.Fatalf("%q became %q", kept, room)
		}
	}
}

// R3: the bytes behind a message's end, and fields behind a list's end, are no part of it.
func TestTheRoomBehindIsNotRead(t *testing.T) {
	room := []byte("A:1\r\n x\r\n")
	for n := range len(room) {
		want := modelParse(string(room[:n]))
		l, at, spot := field.Parse(room[:n])
		if !slices.Equal(l, want.l) || at != want.body || spot != want.spot {
			t.Fatalf("Parse(%q): %q, %d, %v", room[:n], l, at, spot)
		}
	}
	l := fields("A", "", "A", "")
	if b, e := field.Print(l[:1]); string(b) != "A:\r\n" || e != api.OK || len(field.Find(l[:1], "A")) != 1 {
		t.Fatalf("Print: %q, %d", b, e)
	}
}

// R3: what is told is memory of its own: neither what the caller writes into what was handed in is seen there, nor the other way round.
func TestHandedOutIsNew(t *testing.T) {
	msg := []byte("A: 1\r\n x\r\nb:2\r\n\r\n")
	l, _, _ := field.Parse(msg)
	clear(msg)
	if want := fields("A", " 1/ x", "b", "2"); !slices.Equal(l, want) {
		t.Fatalf("the fields became %q", l)
	}
	first, _ := field.Print(l)
	again, _ := field.Print(l)
	at, places := field.Find(l, "b"), field.Find(l, "b")
	clear(first[:cap(first)])
	clear(at[:cap(at)])
	clear(l[:cap(l)])
	if string(again) != "A: 1\r\n x\r\nb:2\r\n" || !slices.Equal(places, []int{1}) {
		t.Fatalf("the answers became %q, %v", again, places)
	}
	once, _, _ := field.Parse([]byte("A:1\r\n"))
	twice, _, _ := field.Parse([]byte("A:1\r\n"))
	once = append(once[:0:cap(once)], api.Field{Name: "other"})
	if twice[0].Name != "A" || once[0].Name != "other" {
		t.Fatalf("the second answer became %q", twice)
	}
}

// R2: calls side by side tell what they tell alone.
func TestSideBySide(t *testing.T) {
	var all sync.WaitGroup
	for i := range 8 {
		all.Go(func() {
			random := rand.New(rand.NewSource(int64(i)))
			for range 500 {
				agreeParse(t, anyMessage(random))
				agreePrint(t, anyFields(random, true))
				agreeFold(t, "To", anyText(random), 1+random.Intn(30))
				agreeUnfold(t, anyMessage(random))
			}
		})
	}
	all.Wait()
}

// R6: no bytes and no fields may be nil or empty.
func TestNilAndEmpty(t *testing.T) {
	for _, msg := range [][]byte{nil, {}} {
		if l, at, spot := field.Parse(msg); len(l) != 0 || at != 0 || spot != (api.Spot{}) {
			t.Fatalf("Parse of nothing: %v, %d, %v", l, at, spot)
		}
	}
	for _, l := range [][]api.Field{nil, {}} {
		if b, e := field.Print(l); len(b) != 0 || e != api.OK || len(field.Find(l, "")) != 0 {
			t.Fatalf("Print of none: %q, %d", b, e)
		}
	}
}
