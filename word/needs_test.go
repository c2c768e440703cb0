package word_test

import (
	"strings"
	"testing"
)

// P17.3: every byte, at every place of a text.
func TestNeedsOfEveryByte(t *testing.T) {
	for b := range 256 {
		c := string([]byte{byte(b)})
		want := b != 9 && (b < 32 || b > 126)
		for _, s := range []string{c, "a" + c, c + "a", "a " + c + " b", strings.Repeat("x", 1000) + c, c + c} {
			wantNeeds(t, s, want)
		}
		wantNeeds(t, c+" =?x?q??=", true)
		wantNeeds(t, "=?x?q??=\t"+c, true)
	}
	wantNeeds(t, "", false)
	wantNeeds(t, " \t ", false)
	wantNeeds(t, "Gr\u00fc\u00dfe", true)
}

// P17.3: encoded words, whether they can be read or not, by themselves and among others.
func TestNeedsOfEncodedWords(t *testing.T) {
	for _, w := range []string{"=?x?q??=", "=?x?Q??=", "=?x?b??=", "=?x?B??=", "=?UTF-8?Q?a?=", "=?utf-8?b?YQ==?=", "=?*?q?a?=", "=?utf-8?q?=?=", "=?utf-8?b?!?=", "=?us-ascii?q?=ff?=", "=?=?q?=?=", "=?UTF-8?Q?" + strings.Repeat("x", 1000) + "?="} {
		wantNeeds(t, w, true)
		for _, g := range gaps() {
			wantNeeds(t, g+w, true)
			wantNeeds(t, w+g, true)
			wantNeeds(t, "a"+g+w+g+"b", true)
			wantNeeds(t, "=?"+g+w, true)
			wantNeeds(t, w+g+w, true)
		}
		wantNeeds(t, "a"+w, false)
		wantNeeds(t, w+"a", false)
		wantNeeds(t, w+w, false)
		wantNeeds(t, "("+w+")", false)
		wantNeeds(t, strings.ReplaceAll(w, "?", "? "), false)
	}
}

// P17.3: of words that are nearly encoded only their bytes count.
func TestNeedsOfNearlyEncodedWords(t *testing.T) {
	for _, w := range nearly {
		shown := true
		for i := range len(w) {
			shown = shown && w[i] > 32 && w[i] < 127
		}
		wantNeeds(t, w, !shown)
		wantNeeds(t, "a "+w+"\tb", !shown)
		wantNeeds(t, w+" "+w, !shown)
		wantNeeds(t, w+" =?x?q??= "+w, true)
	}
	wantNeeds(t, "=?UTF-8?Q?a b?=", false)
	wantNeeds(t, "=?UTF-8?Q?a\tb?=", false)
	wantNeeds(t, "=?UTF-8 ?Q?a?=", false)
}
