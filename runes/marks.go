package runes

// marks counts marked places of a list: how many stand ahead of one, and where the one of a number stands.
// (Long lists are written and read: to count place by place would take a time that grows with their square.)
// The entry at k counts those of the stretch that ends with the place k - 1, as long as the lowest bit of k;
// the entry at 0 is not used.
type marks []int32

// marksFor is one for so many places, none of them marked.
func marksFor(places int) marks { return make(marks, places+1) }

// add marks a place (by 1), or takes its mark away (by -1).
func (m marks) add(at int, by int32) {
	for k := at + 1; k < len(m); k += k & -k {
		m[k] += by
	}
}

// addAll marks all places.
func (m marks) addAll() {
	for k := range m {
		m[k] = int32(k & -k)
	}
}

// ahead is how many marked places stand ahead of at.
func (m marks) ahead(at int) int {
	n := 0
	for k := at; k > 0; k &= k - 1 {
		n += int(m[k])
	}
	return n
}

// find is the marked place ahead of which n marked ones stand.
func (m marks) find(n int) int {
	at := 0
	for width := widest(len(m)); width > 0; width /= 2 {
		if k := at + width; k < len(m) && int(m[k]) <= n {
			at = k
			n -= int(m[k])
		}
	}
	return at
}

// widest is the greatest power of two that is not above n, which is at least 1.
func widest(n int) int {
	w := 1
	for w <= n/2 {
		w *= 2
	}
	return w
}
