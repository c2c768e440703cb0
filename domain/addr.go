package domain

import (
	"strconv"
	"strings"

	"posthorn/api"
	"posthorn/octet"
)

// V4 and V6 read addresses; PrintV4 and PrintV6 write them.
func V4(s string) ([4]byte, api.Spot) {
	var a [4]byte
	at := 0
	wrong := func() ([4]byte, api.Spot) { return [4]byte{}, api.Spot{Err: api.ErrAddr, At: at} }
	for i := range a {
		if i > 0 {
			if !strings.HasPrefix(s[at:], ".") {
				return wrong()
			}
			at++
		}
		n, length := number(s[at:])
		if length == 0 {
			return wrong()
		}
		a[i] = n
		at += length
	}
	if at < len(s) {
		return wrong()
	}
	return a, api.Spot{}
}

// number is the number from 0 to 255 with which a text begins, and how many bytes it has: as many as may
// still be one.
func number(s string) (byte, int) {
	n, at := 0, 0
	for at < len(s) && octet.Is(octet.Digit, s[at]) {
		more := 10*n + int(s[at]-'0')
		// Behind a 0 that begins it no digit may stand.
		if more > 255 || at > 0 && n == 0 {
			break
		}
		n = more
		at++
	}
	return byte(n), at
}

// PrintV4 writes one.
func PrintV4(a [4]byte) string {
	var l [len(a)]string
	for i, n := range a {
		l[i] = octet.Decimal(uint64(n))
	}
	return strings.Join(l[:], ".")
}

// How many groups there are, and how many at most beside two colons.
const (
	allGroups = 8
	mostByGap = 6
	mostHex   = 4 // digits of a group
)

// groups are those that were read so far, and ahead of which of them two colons stand.
type groups struct {
	list [allGroups]uint16
	n    int
	gaps bool
	gap  int
}

// room is how many groups may follow.
func (g *groups) room() int {
	if g.gaps {
		return mostByGap - g.n
	}
	return allGroups - g.n
}

// whole tells whether there are all groups, with the next more of them.
func (g *groups) whole(more int) bool {
	return g.gaps && more <= g.room() || more == g.room()
}

// take puts a group behind the others.
func (g *groups) take(n uint16) {
	g.list[g.n] = n
	g.n++
}

// open notes that two colons stand here; false: they may not.
func (g *groups) open() bool {
	if g.gaps || g.n > mostByGap {
		return false
	}
	g.gaps, g.gap = true, g.n
	return true
}

// address is the address whose groups these are.
func (g *groups) address() [16]byte {
	var a [16]byte
	for i, n := range g.list[:g.n] {
		to := i
		if g.gaps && i >= g.gap {
			to += allGroups - g.n
		}
		a[2*to], a[2*to+1] = byte(n>>8), byte(n)
	}
	return a
}

// V6 reads one.
func V6(s string) ([16]byte, api.Spot) {
	var g groups
	at := 0
	wrong := func(ahead int) ([16]byte, api.Spot) {
		return [16]byte{}, api.Spot{Err: api.ErrAddr, At: at + ahead}
	}
	next := func(mark string) bool { return strings.HasPrefix(s[at:], mark) }
	if next("::") {
		g.open()
		at = 2
		if at == len(s) {
			return g.address(), api.Spot{}
		}
	} else if next(":") {
		return wrong(1)
	}
	for {
		n, length := group(s[at:])
		if length == 0 || g.room() == 0 {
			return wrong(0)
		}
		if g.whole(2) && strings.HasPrefix(s[at+length:], ".") {
			a, spot := V4(s[at:])
			if spot.Err != api.OK {
				// What is no number of the fourth kind may still have been a group, up to the dot.
				return wrong(max(length, spot.At))
			}
			g.take(uint16(a[0])<<8 | uint16(a[1]))
			g.take(uint16(a[2])<<8 | uint16(a[3]))
			return g.address(), api.Spot{}
		}
		g.take(n)
		at += length
		if at == len(s) && g.whole(0) {
			return g.address(), api.Spot{}
		}
		if !next(":") || g.room() == 0 {
			return wrong(0)
		}
		at++
		if next(":") {
			if !g.open() {
				return wrong(0)
			}
			at++
			if at == len(s) {
				return g.address(), api.Spot{}
			}
		}
	}
}

// group is the group with which a text begins, and how many bytes it has.
func group(s string) (uint16, int) {
	length := min(octet.Bad(octet.Hex, s), mostHex)
	n, _ := strconv.ParseUint(s[:length], 16, 16)
	return uint16(n), length
}

// PrintV6 writes one, as short as it may be.
func PrintV6(a [16]byte) string {
	var l [allGroups]string
	for i := range l {
		n := uint64(a[2*i])<<8 | uint64(a[2*i+1])
		l[i] = strconv.FormatUint(n, 16)
	}
	from, to := zeros(l)
	if to-from < 2 {
		return strings.Join(l[:], ":")
	}
	return strings.Join(l[:from], ":") + "::" + strings.Join(l[to:], ":")
}

// zeros is the first one of the longest rows of groups that are 0.
func zeros(l [allGroups]string) (from, to int) {
	begin := 0
	for i, digits := range l {
		if digits != "0" {
			begin = i + 1
		}
		if i+1-begin > to-from {
			from, to = begin, i+1
		}
	}
	return from, to
}
