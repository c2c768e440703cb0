package param

import (
	"cmp"
	"slices"
	"strings"

	"posthorn/api"
	"posthorn/octet"
)

// What stands between two words of NOTIFY.
const wordEnd = ","

// notices are the words of NOTIFY, each with its number.
func notices() map[string]int {
	return map[string]int{
		"NEVER":   api.NotifyNever,
		"SUCCESS": api.NotifySuccess,
		"FAILURE": api.NotifyFailure,
		"DELAY":   api.NotifyDelay,
	}
}

// notifyOf reads the value of NOTIFY.
func notifyOf(s string) (int, bool) {
	all, said := notices(), map[string]int{}
	for _, word := range strings.Split(octet.Upper(s), wordEnd) {
		number, known := all[word]
		if _, twice := said[word]; twice || !known {
			return 0, false
		}
		said[word] = number
	}
	sum := 0
	for _, number := range said {
		sum += number
	}
	return sum, mayNotify(sum)
}

// mayNotify tells whether NOTIFY can say this sum, or 0, which it does not say: NEVER goes with no other word.
func mayNotify(sum int) bool {
	const others = api.NotifySuccess | api.NotifyFailure | api.NotifyDelay
	return sum == api.NotifyNever || sum&^others == 0
}

// notifyValue writes the value of NOTIFY.
func notifyValue(sum int) string {
	all := notices()
	var words []string
	for word, number := range all {
		if sum&number != 0 {
			words = append(words, word)
		}
	}
	slices.SortFunc(words, func(a, b string) int { return cmp.Compare(all[a], all[b]) })
	return strings.Join(words, wordEnd)
}
