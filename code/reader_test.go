package code_test

import (
	"bytes"
	"math/rand"
	"slices"
	"strings"
	"testing"

	"posthorn/api"
	"posthorn/code"
)

// modelReader is the chapter's reader: all of its text, and what spoilt it.
type modelReader struct {
	text   string
	spoilt api.Errno
}

func (m *modelReader) feed(b string) ([]byte, api.Errno) {
	if m.spoilt != api.OK {
		return nil, m.spoilt
	}
	before := len(m.text) / 4 * 4
	for i := range len(b) {
		if b[i] == '\r' || b[i] == '\n' {
			continue
		}
		if !begins(m.text + b[i:i+1]) {
			m.spoilt = wrongWith(b[i])
			break
		}
		m.text += b[i : i+1]
	}
	told, _ := isText(m.text[before : len(m.text)/4*4])
	return told, m.spoilt
}

func (m *modelReader) close() api.Errno {
	if m.spoilt == api.OK && len(m.text)%4 != 0 {
		return api.ErrPad
	}
	return m.spoilt
}

// readerTexts are texts as readers are fed with them: right ones, cut ones, and spoilt ones.
func readerTexts() []string {
	l := []string{
		"", "\r\n", "T", "TW", "TWF", "TWFu", "TQ==", "TWE=", "TWFuTQ==", "TWFu\r\nTQ==\r\n",
		"\rT\nW\r\nF\n\ru\r", "T\rQ\n=\r\n=\n\r", "TQ==\r\n\r\nA", "TQ==\r\n=", "TQ==\r\n!", "TQ==TQ==", "TQ=\r\nA",
		"=", "T=", "TR==", "TWF=", "TWFu!TWFu", "TWFu TWFu", "TWFuT!", "TWFuTQ!", "TWFuTQ=!", "TWFu=TWFu", "TWFuT=", "TWFuTWF=TWFu", "TWFu\x00", "TWFu\xff", "TWFu\t\r\n", "TWFuTW\r\nF\ru\n-",
	}
	for _, b := range rows()[:40] {
		s, _ := code.Rows(b, 8)
		l = append(l, s, s+"=", s+"\x80")
	}
	return l
}

// fed is what a reader tells of a text in pieces: all bytes one behind the other, the error of the last
// piece, and what Close answers behind it. Each piece is held against the chapter's reader.
func fed(t *testing.T, pieces []string) (string, api.Errno, api.Errno) {
	t.Helper()
	r, m := code.New(), &modelReader{}
	var told []byte
	var last api.Errno
	for i, p := range pieces {
		if r.Close() != m.close() {
			t.Errorf("Close ahead of piece %d of %q: %d, want %d", i, pieces, r.Close(), m.close())
		}
		b, e := r.Feed([]byte(p))
		want, wantE := m.feed(p)
		if !bytes.Equal(b, want) || e != wantE {
			t.Errorf("piece %d of %q: %q, %d, want %q, %d", i, pieces, b, e, want, wantE)
		}
		told, last = append(told, b...), e
	}
	if r.Close() != m.close() {
		t.Errorf("Close behind %q: %d, want %d", pieces, r.Close(), m.close())
	}
	return string(told), last, r.Close()
}

// inPieces is a text in pieces of n bytes; the last may be shorter, and there is always one.
func inPieces(s string, n int) []string {
	var l []string
	for len(s) > n {
		l = append(l, s[:n])
		s = s[n:]
	}
	return append(l, s)
}

// P4.4, P4.8, P12
func TestReaderInPiecesOfEverySize(t *testing.T) {
	for _, s := range readerTexts() {
		told, e, closed := fed(t, []string{s})
		for n := 1; n <= len(s); n++ {
			told2, e2, closed2 := fed(t, inPieces(s, n))
			if told2 != told || e2 != e || closed2 != closed {
				t.Errorf("%q in pieces of %d: %q, %d, %d, and not %q, %d, %d", s, n, told2, e2, closed2, told, e, closed)
			}
		}
	}
}

// P4.4, P4.8: two cuts anywhere, so there are empty pieces, too.
func TestReaderCutAnywhere(t *testing.T) {
	for _, s := range readerTexts()[:50] {
		told, e, closed := fed(t, []string{s})
		for i := range len(s) + 1 {
			for j := i; j <= len(s); j++ {
				told2, e2, closed2 := fed(t, []string{s[:i], s[i:j], s[j:]})
				if told2 != told || e2 != e || closed2 != closed {
					t.Errorf("%q cut at %d and %d: %q, %d, %d, and not %q, %d, %d", s, i, j, told2, e2, closed2, told, e, closed)
				}
			}
		}
	}
}

// P4.4: short texts of all sorts, whole and byte by byte.
func TestReaderOfShortTexts(t *testing.T) {
	spelt("AEQ=!\r", 5, func(s string) {
		fed(t, []string{s})
		fed(t, inPieces(s, 1))
	})
}

// P4.4, P4.8: CR and LF anywhere change nothing.
func TestReaderLeavesLineEndsOut(t *testing.T) {
	for _, s := range []string{"TWFu", "TWFuTQ==", "TWE=", "TWFuTW", "TWFu!A", "TQ==A"} {
		told, e, closed := fed(t, []string{s})
		for _, end := range []string{"\r", "\n", "\r\n", "\n\r", "\r\r\n\n"} {
			for i := range len(s) + 1 {
				for j := i; j <= len(s); j++ {
					told2, e2, closed2 := fed(t, []string{s[:i] + end + s[i:j], end, s[j:] + end})
					if told2 != told || e2 != e || closed2 != closed {
						t.Errorf("%q with %q at %d and %d: %q, %d, %d", s, end, i, j, told2, e2, closed2)
					}
				}
			}
		}
	}
}

// P4.4: every byte spoils or does not, at each place of a group and behind the text's end.
func TestReaderOfEveryByte(t *testing.T) {
	for _, begun := range []string{"", "T", "TQ", "TR", "TWE", "TWF", "TQ=", "TQ==", "TWE=", "TWFu", "TWFuT"} {
		for c := range 256 {
			one := string([]byte{byte(c)})
			fed(t, []string{begun, one, "TWFu"})
			fed(t, []string{begun + one + "TWFu", ""})
		}
	}
}

// P4.4
func TestReaderIsSpoiltFromThenOn(t *testing.T) {
	for _, c := range []struct {
		piece, told string
		e           api.Errno
	}{
		{"TWFuTWFu!TWFu", "ManMan", api.ErrLetter}, {"TWFuTW=uTWFu", "Man", api.ErrPad}, {"TWFuTW!", "Man", api.ErrLetter}, {"TWFuTQ==TWFu", "ManM", api.ErrPad}, {"!", "", api.ErrLetter}, {"=", "", api.ErrPad},
	} {
		r := code.New()
		if b, e := r.Feed([]byte("\r\nTWFu")); string(b) != "Man" || e != api.OK {
			t.Errorf("ahead of %q: %q, %d", c.piece, b, e)
		}
		if b, e := r.Feed([]byte(c.piece)); string(b) != c.told || e != c.e {
			t.Errorf("Feed(%q) = %q, %d", c.piece, b, e)
		}
		// The other error's bytes do not change which one it is.
		for _, p := range []string{"", "TWFu", "!", "=", "\r\n", "TWFuTWFu"} {
			if r.Close() != c.e {
				t.Errorf("behind %q: Close = %d", c.piece, r.Close())
			}
			if b, e := r.Feed([]byte(p)); len(b) != 0 || e != c.e {
				t.Errorf("behind %q: Feed(%q) = %q, %d", c.piece, p, b, e)
			}
		}
		if b, e := r.Feed(nil); len(b) != 0 || e != c.e {
			t.Errorf("behind %q: Feed(nil) = %q, %d", c.piece, b, e)
		}
	}
}

// P4.4: Close changes nothing, however often and wherever it is asked.
func TestReaderGoesOnBehindClose(t *testing.T) {
	r := code.New()
	for i, c := range []struct {
		piece, told string
		closed      api.Errno
	}{
		{"", "", api.OK}, {"T", "", api.ErrPad}, {"W", "", api.ErrPad}, {"F", "", api.ErrPad}, {"u", "Man", api.OK}, {"\r\n", "", api.OK},
		{"TWE", "", api.ErrPad}, {"=", "Ma", api.OK}, {"\r\n", "", api.OK},
	} {
		if b, e := r.Feed([]byte(c.piece)); string(b) != c.told || e != api.OK {
			t.Errorf("piece %d: %q, %d", i, b, e)
		}
		for range 3 {
			if e := r.Close(); e != c.closed {
				t.Errorf("behind piece %d: Close = %d", i, e)
			}
		}
	}
}

// P4.4, R1
func TestNoReader(t *testing.T) {
	var none *code.Reader
	for _, r := range []*code.Reader{none, {}, new(code.Reader)} {
		for _, b := range [][]byte{nil, {}, []byte("TWFu"), []byte("!"), []byte("=")} {
			if told, e := r.Feed(b); len(told) != 0 || e != api.ErrNil {
				t.Errorf("Feed(%q) = %q, %d", b, told, e)
			}
			if e := r.Close(); e != api.ErrNil {
				t.Errorf("Close = %d", e)
			}
		}
	}
}

// P4.7, P4.8, P12
func TestReaderReadsRows(t *testing.T) {
	r := rand.New(rand.NewSource(2))
	for i, b := range rows() {
		s, _ := code.Rows(b, 4+4*(i%19))
		for range 4 {
			reader := code.New()
			var told []byte
			for rest := s; rest != ""; {
				n := min(len(rest), r.Intn(1+len(s)/3)+r.Intn(3))
				piece, e := reader.Feed([]byte(rest[:n]))
				if e != api.OK {
					t.Fatalf("rows of %d bytes: %d", len(b), e)
				}
				told, rest = append(told, piece...), rest[n:]
			}
			if !bytes.Equal(told, b) || reader.Close() != api.OK {
				t.Errorf("rows of %d bytes: %d bytes, Close %d", len(b), len(told), reader.Close())
			}
		}
	}
}

// P4.8: what a reader tells that may be closed is what Unbase64 tells of its text.
func TestReaderAndUnbase64(t *testing.T) {
	for _, s := range readerTexts() {
		told, e, closed := fed(t, inPieces(s, 3))
		text := strings.NewReplacer("\r", "", "\n", "").Replace(s)
		b, spot := code.Unbase64(text)
		if (closed == api.OK) != (spot == api.Spot{}) {
			t.Errorf("%q: Close %d, Unbase64 %v", s, closed, spot)
		}
		if closed == api.OK && (e != api.OK || told != string(b)) {
			t.Errorf("%q: %q, %d, and Unbase64 %q", s, told, e, b)
		}
		if e != api.OK && e != spot.Err {
			t.Errorf("%q: %d, and Unbase64 %v", s, e, spot)
		}
	}
}

// R2
func TestReadersDoNotSeeOneAnother(t *testing.T) {
	a, b, c := code.New(), code.New(), code.New()
	a.Feed([]byte("TW"))
	b.Feed([]byte("!"))
	if told, e := c.Feed([]byte("TWE=")); string(told) != "Ma" || e != api.OK || c.Close() != api.OK {
		t.Errorf("the third: %q, %d", told, e)
	}
	if told, e := a.Feed([]byte("Fu")); string(told) != "Man" || e != api.OK || a.Close() != api.OK {
		t.Errorf("the first: %q, %d", told, e)
	}
	if b.Close() != api.ErrLetter {
		t.Errorf("the second: Close = %d", b.Close())
	}
	// One that is copied goes its own way, too.
	a.Feed([]byte("TW"))
	d := *a
	d.Feed([]byte("!"))
	if told, e := a.Feed([]byte("E=")); string(told) != "Ma" || e != api.OK || d.Close() != api.ErrLetter {
		t.Errorf("behind its copy was spoilt: %q, %d; the copy: %d", told, e, d.Close())
	}
}

// R3: the piece stays as it is, with the room behind its end, and is not kept.
func TestFeedDoesNotKeepThePiece(t *testing.T) {
	s := "TWFu\r\nTWE=\r\n"
	for n := 1; n <= len(s); n++ {
		r := code.New()
		var told []byte
		for _, p := range inPieces(s, n) {
			whole := append([]byte(p), "TWFuTWFu"...)
			before := slices.Clone(whole)
			b, e := r.Feed(whole[:len(p)])
			if !bytes.Equal(whole, before) || e != api.OK {
				t.Errorf("pieces of %d: %q became %q; %d", n, before, whole, e)
			}
			for i := range whole {
				whole[i] = '!'
			}
			told = append(told, b...)
		}
		if string(told) != "ManMa" || r.Close() != api.OK {
			t.Errorf("pieces of %d: %q, %d", n, told, r.Close())
		}
	}
}

// scribble writes over a list, and over its spare room.
func scribble(b []byte) {
	b = b[:cap(b)]
	for i := range b {
		b[i] = '!'
	}
}

// R3: what is told is the caller's, spare room too.
func TestFeedTellsNewMemory(t *testing.T) {
	s := strings.Repeat("TWFu", 9) + "TWE="
	for n := 1; n <= len(s); n++ {
		r := code.New()
		var told []string
		var lists [][]byte
		for _, p := range inPieces(s, n) {
			b, e := r.Feed([]byte(p))
			if e != api.OK {
				t.Fatalf("pieces of %d: %d", n, e)
			}
			told = append(told, string(b))
			lists = append(lists, b)
			if len(lists)%2 == 0 {
				scribble(b)
				lists[len(lists)-1] = nil
			}
		}
		for i, b := range lists {
			if b != nil && string(b) != told[i] {
				t.Errorf("pieces of %d: what piece %d told became %q", n, i, b)
			}
		}
		if all := strings.Join(told, ""); all != strings.Repeat("Man", 9)+"Ma" || r.Close() != api.OK {
			t.Errorf("pieces of %d: %q, %d", n, all, r.Close())
		}
	}
}

// R3: beside an error, too.
func TestFeedTellsNewMemoryBesideAnError(t *testing.T) {
	r := code.New()
	b, _ := r.Feed([]byte("TWFuTW!"))
	scribble(b)
	if told, e := r.Feed([]byte("Fu")); len(told) != 0 || e != api.ErrLetter || r.Close() != api.ErrLetter {
		t.Errorf("%q, %d", told, e)
	}
}
