package runes

import (
	"cmp"
	"slices"
	"strings"

	"posthorn/api"
	"posthorn/octet"
)

const (
	firstWide = 128
	mark      = '-' // behind the runes below 128, if there are any
	mostStep  = 1<<31 - 1

	digits     = 36
	leastBound = 1
	mostBound  = 26
	firstBias  = 72
)

// counter is what writing and reading Punycode count alike, from step to step.
type counter struct {
	n    rune // the wide rune that came last
	i    int  // the place behind it
	h    int  // how many runes are in the list
	bias int
	gone bool // a step was
}

// counterOf is the one with which a list begins that has h runes below 128.
func counterOf(h int) counter {
	return counter{n: firstWide, h: h, bias: firstBias}
}

// step is the number that puts r to the place p. (The numbers are those of a list and of runes: 64 bits
// hold their product.)
func (c *counter) step(r rune, p int) int64 {
	return int64(r-c.n)*int64(c.h+1) + int64(p) - int64(c.i)
}

// put is the rune of a step, and the place to which it comes. The rune may be none, and above 32 bits.
func (c *counter) put(step int64) (r int64, p int) {
	sum, room := int64(c.i)+step, int64(c.h+1)
	return int64(c.n) + sum/room, int(sum % room)
}

// next goes on behind a step with which r came to p.
func (c *counter) next(step int64, r rune, p int) {
	c.n, c.i = r, p+1
	c.h++
	c.bias = biasBehind(step, c.h, !c.gone)
	c.gone = true
}

// biasBehind is the bias behind a step, with so many runes in the list by now.
func biasBehind(step int64, h int, first bool) int {
	d := step / 2
	if first {
		d = step / 700
	}
	d += d / int64(h)
	k := 0
	for d > 455 {
		d /= 35
		k += 36
	}
	return k + int(36*d/(d+38))
}

// bound is that of the digit at a place of a step.
func bound(place, bias int) int64 {
	return int64(min(max(digits*(place+1)-bias, leastBound), mostBound))
}

// Puny writes runes as Punycode (RFC 3492).
func Puny(l []rune) (string, api.Errno) {
	if noRune(l) < len(l) {
		return "", api.ErrUtf
	}
	var text strings.Builder
	places := marksFor(len(l))
	for at, r := range l {
		if r < firstWide {
			text.WriteByte(byte(r))
			places.add(at, 1)
		}
	}
	c := counterOf(text.Len())
	if text.Len() > 0 {
		text.WriteByte(mark)
	}
	for _, at := range widePlaces(l) {
		p := places.ahead(at)
		s := c.step(l[at], p)
		if s > mostStep {
			return "", api.ErrOver
		}
		writeStep(&text, s, c.bias)
		c.next(s, l[at], p)
		places.add(at, 1)
	}
	return text.String(), api.OK
}

// widePlaces are the places of the wide runes of a list, in their order.
func widePlaces(l []rune) []int {
	var places []int
	for at, r := range l {
		if r >= firstWide {
			places = append(places, at)
		}
	}
	slices.SortFunc(places, func(a, b int) int {
		return cmp.Or(cmp.Compare(l[a], l[b]), cmp.Compare(a, b))
	})
	return places
}

// writeStep writes the digits of a step.
func writeStep(text *strings.Builder, q int64, bias int) {
	for place := 0; ; place++ {
		t := bound(place, bias)
		if q < t {
			break
		}
		text.WriteByte(digitOf(uint8(t + (q-t)%(digits-t))))
		q = (q - t) / (digits - t)
	}
	text.WriteByte(digitOf(uint8(q)))
}

// digitOf is the byte that stands for 0 to 35.
func digitOf(v uint8) byte {
	if v < 26 {
		return 'a' + v
	}
	return '0' + v - 26
}

// digitValue is what a byte stands for, if it is a digit.
func digitValue(b byte) (v uint8, ok bool) {
	switch {
	case octet.Is(octet.Digit, b):
		return b - '0' + 26, true
	case 'a' <= b && b <= 'z':
		return b - 'a', true
	case 'A' <= b && b <= 'Z':
		return b - 'A', true
	}
	return 0, false
}

// Unpuny reads it.
func Unpuny(s string) ([]rune, api.Spot) {
	// A mark at 0 has nothing ahead, and is then no mark but a byte where digits stand.
	ahead, at := "", 0
	if last := strings.LastIndexByte(s, mark); last > 0 {
		ahead, at = s[:last], last+1
	}
	if wide := octet.Bad(octet.Ascii, ahead); wide < len(ahead) {
		return nil, api.Spot{Err: api.ErrPuny, At: wide}
	}
	var puts []put
	c := counterOf(len(ahead))
	for at < len(s) {
		step, behind, e := readStep(s, at, c.bias)
		if e.Err != api.OK {
			return nil, e
		}
		r, p := c.put(step)
		if r > mostRune || !isRune(rune(r)) {
			return nil, api.Spot{Err: api.ErrUtf, At: behind - 1}
		}
		puts = append(puts, put{rune(r), p})
		c.next(step, rune(r), p)
		at = behind
	}
	return laid(ahead, puts), api.Spot{}
}

// readStep reads the step whose digits begin at from, and tells the place behind them.
func readStep(s string, from, bias int) (step int64, behind int, e api.Spot) {
	// As long as the step is not above its bound, the weight of a further digit is not above 35 times that:
	// each digit ahead of it was at least its own bound, so at least 1.
	weight := int64(1)
	for at := from; at < len(s); at++ {
		digit, ok := digitValue(s[at])
		if !ok {
			return 0, 0, api.Spot{Err: api.ErrPuny, At: at}
		}
		v, t := int64(digit), bound(at-from, bias)
		step += v * weight
		if step > mostStep {
			return 0, 0, api.Spot{Err: api.ErrOver, At: at}
		}
		if v < t {
			return step, at + 1, api.Spot{}
		}
		weight *= digits - t
	}
	return 0, 0, api.Spot{Err: api.ErrPuny, At: len(s)}
}

// put is a wide rune, and the place to which it comes in the list as it is by then.
type put struct {
	r rune
	p int
}

// laid is the list of the runes of ahead with the wide ones put to their places, one behind the other. It goes
// backwards: what came last stands where it was put, and what came ahead of it at that place of those that are
// still free. So no rune is moved, however many there are.
func laid(ahead string, puts []put) []rune {
	l := make([]rune, len(ahead)+len(puts))
	free := marksFor(len(l))
	free.addAll()
	for _, next := range slices.Backward(puts) {
		at := free.find(next.p)
		l[at] = next.r
		free.add(at, -1)
	}
	at := 0
	for _, r := range ahead {
		for l[at] != 0 {
			at++
		}
		l[at] = r
		at++
	}
	return l
}
