package word_test

import (
	"math/rand"
	"strings"
	"sync"
	"testing"
	"unsafe"

	"posthorn/api"
	"posthorn/word"
)

// P17.4, P17.5: what is encoded is decoded again, and fit to be sent, also where it looks as if it were encoded.
// (Every agreeEncode asks for both.)
func TestThereAndBack(t *testing.T) {
	eachText([]string{" ", "\t", "=?utf-8?q?a?=", "\r\n", "\u00e9", "_", "=41"}, 5, func(s string) { agreeEncode(t, s) })
	for _, w := range nearly {
		agreeEncode(t, w)
	}
	random := rand.New(rand.NewSource(174))
	for range 2000 {
		s := anyHeader(random)
		b, brief := agreeEncode(t, s)
		// What is encoded may be encoded once more.
		agreeEncode(t, b)
		agreeEncode(t, brief)
	}
}

// P17.5, P17.6: where Needs is false, all stays; and what is encoded needs it.
func TestAsItIs(t *testing.T) {
	as := 0
	ask := func(s string) {
		if !word.Needs(s) {
			as++
			wantDecode(t, s, s)
		}
	}
	eachText([]string{"=?", "?=", "?q?", "?", "=", " ", "\t", "x"}, 5, ask)
	random := rand.New(rand.NewSource(176))
	for range 5000 {
		ask(anyHeader(random))
		if s := anyRunes(random, 10); s != "" {
			b, brief := agreeEncode(t, s)
			wantNeeds(t, b, true)
			wantNeeds(t, brief, true)
		}
	}
	for _, w := range nearly {
		ask(w)
	}
	if as < 1000 {
		t.Fatalf("only %d texts could stand", as)
	}
}

// P17.7: encoded words among other words.
func TestAmongOthers(t *testing.T) {
	others := []string{"a", "Re:", " a", "a ", "\ta  b\t ", "=?", "?=", "=41_", "x=?UTF-8?Q?a?=", "=?UTF-8?Q?a?=x", "=?UTF-8?Q?a?b?=", "=?UTF-8?X?a?="}
	texts := []string{"a", " ", "  ", "\t", "\u00e9", "a b", " \u00e9 ", "=?UTF-8?Q?a?=", "\r\n", strings.Repeat("x y ", 40), strings.Repeat("\u20ac ", 60), strings.Repeat(" ", 100)}
	for _, a := range others {
		for _, b := range others {
			for _, s := range texts {
				for _, brief := range []bool{false, true} {
					text, e := word.Encode(s, brief)
					if e != api.OK || word.Needs(a) || word.Needs(b) {
						t.Fatalf("Encode(%q, %v): %d, or %q, %q need it", s, brief, e, a, b)
					}
					wantDecode(t, a+" "+text+" "+b, a+" "+s+" "+b)
				}
			}
		}
	}
}

// borrowed is a text whose memory the caller still writes to.
func borrowed(b []byte) string { return unsafe.String(unsafe.SliceData(b), len(b)) }

// R3: what is told is memory of its own: what was handed in may be written to, and no answer shows it.
func TestToldIsNew(t *testing.T) {
	ask := func(s string, call func(string) string) {
		b := []byte(s + "behind")
		first := call(borrowed(b[:len(s)]))
		if string(b) != s+"behind" {
			t.Fatalf("%s became %s", short(s), short(string(b)))
		}
		kept := strings.Clone(first)
		clear(b)
		if first != kept || call(s) != kept {
			t.Fatalf("%s: %s became %s", short(s), short(kept), short(first))
		}
	}
	for _, s := range append([]string{"", "a", "a b", "=?utf-8?q?a?=", "x =?utf-8?q?a?= =?iso-8859-1?b?6Q==?=\ty", "=?x?q?a?=", "\u00e9", "\xff"}, nearly...) {
		ask(s, func(s string) string { told, _ := word.Decode(s); return told })
		ask(s, func(s string) string { told, _ := word.Encode(s, false); return told })
		ask(s, func(s string) string { told, _ := word.Encode(s, true); return told })
	}
}

// R2: calls side by side tell what they tell alone, and a call what it told before.
func TestSideBySide(t *testing.T) {
	var all sync.WaitGroup
	for i := range 8 {
		all.Go(func() {
			random := rand.New(rand.NewSource(int64(i)))
			for range 300 {
				s := anyHeader(random)
				for range 2 {
					agree(t, s)
					agreeEncode(t, s)
				}
			}
		})
	}
	all.Wait()
}
