package queue_test

import (
	"math"
	"math/rand"
	"runtime"
	"slices"
	"strconv"
	"testing"
	"weak"

	"posthorn/api"
	"posthorn/queue"
)

// pair is a struct to be kept.
type pair struct {
	key  int
	name string
}

func number(i int) int { return i }

func pairOf(i int) pair { return pair{i, "the thing " + strconv.Itoa(i)} }

// alike holds two rows against each other.
func alike[T comparable](t *testing.T, what string, got, want []T) {
	t.Helper()
	if !slices.Equal(got, want) {
		t.Errorf("%s: %v, want %v", what, got, want)
	}
}

// ringOf is a ring of at most most things, with these.
func ringOf[T any](t *testing.T, most int, things ...T) *queue.Ring[T] {
	t.Helper()
	r, e := queue.New[T](most)
	if r == nil || e != api.OK {
		t.Fatalf("New(%d): %v, %d", most, r, e)
	}
	for _, v := range things {
		if e := r.Push(v); e != api.OK {
			t.Fatalf("Push of one of %d things to a ring of %d: %d", len(things), most, e)
		}
	}
	return r
}

// aroundOf is a full ring with these things, of which the last n go around the end of what it keeps them in.
func aroundOf[T any](t *testing.T, n int, things ...T) *queue.Ring[T] {
	t.Helper()
	r := ringOf(t, len(things), things...)
	for range n {
		r.Pop()
		r.Push(things[0])
	}
	r.Drop(len(things))
	for _, v := range things {
		r.Push(v)
	}
	return r
}

// thingsOf are the things of a ring, as Each tells them.
func thingsOf[T any](t *testing.T, r *queue.Ring[T]) []T {
	t.Helper()
	var things []T
	for i, v := range r.Each() {
		if i != len(things) {
			t.Errorf("Each: place %d behind %d things", i, len(things))
		}
		things = append(things, v)
	}
	return things
}

// row is a plain row to which the same is done as to a ring.
type row[T comparable] struct {
	most   int
	things []T
}

func (m *row[T]) push(v T) api.Errno {
	if len(m.things) == m.most {
		return api.ErrFull
	}
	m.things = append(slices.Clone(m.things), v)
	return api.OK
}

func (m *row[T]) drop(n int) int {
	n = max(0, min(n, len(m.things)))
	m.things = slices.Clone(m.things[n:])
	return n
}

func (m *row[T]) at(i int) (v T, ok bool) {
	if 0 <= i && i < len(m.things) {
		return m.things[i], true
	}
	return v, false
}

func (m *row[T]) pop() (T, bool) {
	v, ok := m.at(0)
	m.drop(1)
	return v, ok
}

// both is a ring and a plain row beside each other.
type both[T comparable] struct {
	t *testing.T
	r *queue.Ring[T]
	m *row[T]
}

func bothOf[T comparable](t *testing.T, most int) both[T] {
	t.Helper()
	return both[T]{t, ringOf[T](t, most), &row[T]{most: most}}
}

func (b both[T]) push(v T) {
	b.t.Helper()
	if e, want := b.r.Push(v), b.m.push(v); e != want {
		b.t.Fatalf("Push %v: %d, want %d", v, e, want)
	}
}

func (b both[T]) pop() {
	b.t.Helper()
	v, ok := b.r.Pop()
	if want, wantOk := b.m.pop(); v != want || ok != wantOk {
		b.t.Fatalf("Pop: %v, %v, want %v, %v", v, ok, want, wantOk)
	}
}

func (b both[T]) drop(n int) {
	b.t.Helper()
	if went, want := b.r.Drop(n), b.m.drop(n); went != want {
		b.t.Fatalf("Drop(%d): %d, want %d", n, went, want)
	}
}

// check holds all that the ring tells against the row.
func (b both[T]) check() {
	b.t.Helper()
	n := len(b.m.things)
	if b.r.Len() != n || b.r.Room() != b.m.most-n {
		b.t.Fatalf("Len %d, Room %d, of %d things of %d", b.r.Len(), b.r.Room(), n, b.m.most)
	}
	for i := -2; i <= b.m.most+2; i++ {
		b.checkAt(i)
	}
	for _, i := range []int{math.MinInt, math.MinInt + 1, math.MaxInt - 1, math.MaxInt} {
		b.checkAt(i)
	}
	alike(b.t, "Each", thingsOf(b.t, b.r), b.m.things)
	folded := queue.Fold(b.r, nil, func(a []T, v T) []T { return append(a, v) })
	alike(b.t, "Fold", folded, b.m.things)
}

func (b both[T]) checkAt(i int) {
	b.t.Helper()
	v, ok := b.r.At(i)
	if want, wantOk := b.m.at(i); v != want || ok != wantOk {
		b.t.Fatalf("At(%d) of %v: %v, %v", i, b.m.things, v, ok)
	}
}

// P7.1
func TestNew(t *testing.T) {
	for _, most := range []int{1, 2, api.MaxRing - 1, api.MaxRing} {
		r, e := queue.New[pair](most)
		if r == nil || e != api.OK {
			t.Fatalf("New(%d): %v, %d", most, r, e)
		}
		if _, ok := r.Pop(); ok || r.Len() != 0 || r.Room() != most {
			t.Errorf("New(%d): Len %d, Room %d, Pop %v", most, r.Len(), r.Room(), ok)
		}
	}
	for _, most := range []int{0, -1, -2, api.MaxRing + 1, math.MinInt, math.MinInt + 1, math.MaxInt - 1, math.MaxInt, 1 << 32, 1<<32 + 1} {
		if r, e := queue.New[pair](most); r != nil || e != api.ErrArg {
			t.Errorf("New(%d): %v, %d", most, r, e)
		}
	}
}

// P7.1: room is taken for the things that come, not for those that may.
func TestNewTakesNoRoomAhead(t *testing.T) {
	type big [4096]byte
	var ahead, behind runtime.MemStats
	runtime.ReadMemStats(&ahead)
	r := ringOf[big](t, api.MaxRing)
	for range 3 {
		r.Push(big{})
	}
	runtime.ReadMemStats(&behind)
	if took := behind.TotalAlloc - ahead.TotalAlloc; took > 1<<22 {
		t.Errorf("a ring of three things took %d bytes", took)
	}
	runtime.KeepAlive(r)
}

// fullAndEmptied fills rings of every small bound to every height, from every place on, and empties them again.
func fullAndEmptied[T comparable](t *testing.T, thing func(int) T) {
	for most := 1; most <= 9; most++ {
		b := bothOf[T](t, most)
		next := 0
		push := func() { next++; b.push(thing(next)) }
		for height := range most + 2 {
			for range 2*most + 1 {
				b.check()
				for range height {
					push()
				}
				b.check()
				for range height {
					b.pop()
				}
				b.pop() // of none
				push()  // one place further on
				b.pop()
			}
		}
	}
}

// P7.2, P7.8
func TestRingOfEverySmallBound(t *testing.T) {
	t.Run("numbers", func(t *testing.T) { fullAndEmptied(t, number) })
	t.Run("structs", func(t *testing.T) { fullAndEmptied(t, pairOf) })
	t.Run("nothings", func(t *testing.T) { fullAndEmptied(t, func(int) struct{} { return struct{}{} }) })
}

// P7.2: a ring that stays as full as it is, again and again around its end.
func TestRingAroundItsEnd(t *testing.T) {
	for most := 1; most <= 9; most++ {
		for height := range most + 1 {
			b := bothOf[pair](t, most)
			for i := range height {
				b.push(pairOf(i))
			}
			for i := range 3 * most {
				if height == most {
					b.push(pairOf(-1)) // no room
				}
				b.pop()
				b.push(pairOf(100 + i))
				b.check()
			}
		}
	}
}

// P7.2: a ring grows while its things go around the end of what it keeps them in.
func TestRingGrowsAroundItsEnd(t *testing.T) {
	for height := 1; height <= 40; height++ {
		for gone := range height + 1 {
			b := bothOf[int](t, 100)
			for i := range height {
				b.push(i)
			}
			for i := range gone {
				b.pop()
				b.push(1000 + i)
			}
			for i := range 2*height + 3 {
				b.push(2000 + i)
			}
			b.check()
		}
	}
}

// P7.2, P7.3, R1: no ring.
func TestNoRing(t *testing.T) {
	var zero queue.Ring[pair]
	for _, r := range []*queue.Ring[pair]{nil, &zero, new(queue.Ring[pair])} {
		for range 2 { // nothing comes of it
			if e := r.Push(pairOf(1)); e != api.ErrNil {
				t.Errorf("Push: %d", e)
			}
			if v, ok := r.Pop(); v != (pair{}) || ok {
				t.Errorf("Pop: %v, %v", v, ok)
			}
			if r.Len() != 0 || r.Room() != 0 {
				t.Errorf("Len %d, Room %d", r.Len(), r.Room())
			}
			for _, i := range []int{math.MinInt, -1, 0, 1, math.MaxInt} {
				if v, ok := r.At(i); v != (pair{}) || ok {
					t.Errorf("At(%d): %v, %v", i, v, ok)
				}
				if n := r.Drop(i); n != 0 {
					t.Errorf("Drop(%d): %d", i, n)
				}
			}
			if r.Each() == nil {
				t.Error("Each is nil")
			}
			for i, v := range r.Each() {
				t.Errorf("Each: %d, %v", i, v)
			}
		}
	}
}

// P7.3
func TestDrop(t *testing.T) {
	for most := 1; most <= 7; most++ {
		for height := range most + 1 {
			for turned := range most {
				numbers := []int{math.MinInt, math.MinInt + 1, -2, -1, math.MaxInt - 1, math.MaxInt}
				for n := range most + 3 {
					numbers = append(numbers, n)
				}
				for _, n := range numbers {
					b := bothOf[int](t, most)
					for i := range turned {
						b.push(-i)
						b.drop(1)
					}
					for i := range height {
						b.push(i)
					}
					b.drop(n)
					b.check()
					b.push(50)
					b.push(51)
					b.check()
				}
			}
		}
	}
}

// P7.4, P7.7: through rings that go around their end.
func TestEachAroundTheEnd(t *testing.T) {
	want := []pair{pairOf(1), pairOf(2), pairOf(3), pairOf(4)}
	for n := range len(want) + 1 {
		r := aroundOf(t, n, want...)
		alike(t, "Each", thingsOf(t, r), want)
		names := queue.Fold(r, "", func(a string, p pair) string { return a + p.name[len("the thing "):] })
		if names != "1234" {
			t.Errorf("Fold: %s", names)
		}
	}
}

// P7.4: as often as one likes; each ranging sees what stands when it begins.
func TestEachAgain(t *testing.T) {
	r := ringOf[int](t, 3)
	each := r.Each()
	told := func() (l []int) {
		for _, v := range each {
			l = append(l, v)
		}
		return l
	}
	alike(t, "without things", told(), nil)
	r.Push(1)
	r.Push(2)
	alike(t, "behind two Pushes", told(), []int{1, 2})
	alike(t, "again", told(), []int{1, 2})
	r.Pop()
	r.Push(3)
	r.Push(4)
	alike(t, "behind a Pop and two Pushes", told(), []int{2, 3, 4})
	r.Drop(3)
	alike(t, "behind a Drop", told(), nil)
}

// P7.4
func TestEachLeftEarly(t *testing.T) {
	r := aroundOf(t, 2, 10, 11, 12, 13, 14)
	each := r.Each()
	for stop := range 5 {
		var told []int
		for i, v := range each {
			told = append(told, v)
			if i == stop {
				break
			}
		}
		alike(t, "left early", told, []int{10, 11, 12, 13, 14}[:stop+1])
	}
	alike(t, "behind that", thingsOf(t, r), []int{10, 11, 12, 13, 14})
}

// P7.4: no function to hand the things to.
func TestEachOfNoYield(t *testing.T) {
	ringOf(t, 2, 1).Each()(nil)
	var none *queue.Ring[int]
	none.Each()(nil)
}

// P7.4: one ranging within another, of one Each and of two.
func TestEachWithinEach(t *testing.T) {
	r := aroundOf(t, 1, 1, 2, 3)
	each := r.Each()
	var told []int
	for i, v := range each {
		for j, w := range each {
			for _, x := range r.Each() {
				told = append(told, 100*v+10*w+x)
			}
			if j == i {
				break
			}
		}
	}
	var want []int
	for _, n := range []int{11, 21, 22, 31, 32, 33} {
		want = append(want, 10*n+1, 10*n+2, 10*n+3)
	}
	alike(t, "three within one another", told, want)
}

// meanwhile are the ways to change a ring while it is gone through.
func meanwhile() map[string]func(b both[int]) {
	return map[string]func(b both[int]){
		"Push":          func(b both[int]) { b.push(70) },
		"Pop":           func(b both[int]) { b.pop() },
		"Drop 2":        func(b both[int]) { b.drop(2) },
		"Drop all":      func(b both[int]) { b.drop(math.MaxInt) },
		"Pop and Push":  func(b both[int]) { b.pop(); b.push(71) },
		"Drop and fill": func(b both[int]) { b.drop(9); b.push(72); b.push(73); b.push(74); b.push(75) },
		"many Pushes":   func(b both[int]) { b.push(76); b.push(77); b.push(78); b.push(79) },
	}
}

// P7.4, P7.7: what is pushed, popped or dropped meanwhile is not seen, but is there behind it.
func TestChangedMeanwhile(t *testing.T) {
	want := []int{1, 2, 3, 4}
	for name, change := range meanwhile() {
		for most := 4; most <= 20; most += 4 {
			for at := range want {
				begin := func() both[int] {
					b := bothOf[int](t, most)
					b.push(0)
					b.push(0)
					b.drop(2)
					for _, v := range want {
						b.push(v)
					}
					return b
				}
				b := begin()
				var told []int
				for i, v := range b.r.Each() {
					told = append(told, v)
					if i >= at {
						change(b)
						b.check()
					}
				}
				alike(t, "Each with "+name, told, want)
				b.check()

				b = begin()
				told = queue.Fold(b.r, nil, func(a []int, v int) []int {
					if len(a) >= at {
						change(b)
					}
					return append(a, v)
				})
				alike(t, "Fold with "+name, told, want)
				b.check()
			}
		}
	}
}

// P7.4: the ranging within sees what the one around it has changed.
func TestEachWithinSeesChanges(t *testing.T) {
	r := ringOf(t, 3, 1, 2, 3)
	want := [][]int{{2, 3, 11}, {3, 11, 12}, {11, 12, 13}}
	var outer []int
	for i, v := range r.Each() {
		outer = append(outer, v)
		r.Pop()
		r.Push(10 + v)
		alike(t, "within", thingsOf(t, r), want[i])
	}
	alike(t, "around", outer, []int{1, 2, 3})
}

// P7.7, R1
func TestFold(t *testing.T) {
	tell := func(a string, v int) string { return a + strconv.Itoa(v) }
	var none *queue.Ring[int]
	var zero queue.Ring[int]
	emptied := ringOf(t, 2, 1, 2)
	emptied.Drop(2)
	for _, c := range []struct {
		name string
		r    *queue.Ring[int]
		f    func(string, int) string
		want string
	}{
		{"no ring", none, tell, "x"},
		{"a zero ring", &zero, tell, "x"},
		{"no ring and no function", none, nil, "x"},
		{"no function", ringOf(t, 2, 1, 2), nil, "x"},
		{"a ring without things", ringOf[int](t, 2), tell, "x"},
		{"a ring that lost its things", emptied, tell, "x"},
		{"one thing", ringOf(t, 2, 7), tell, "x7"},
		{"a full ring", ringOf(t, 3, 1, 2, 3), tell, "x123"},
		{"around the end", aroundOf(t, 1, 1, 2, 3), tell, "x123"},
		{"around the end", aroundOf(t, 2, 1, 2, 3), tell, "x123"},
	} {
		if got := queue.Fold(c.r, "x", c.f); got != c.want {
			t.Errorf("Fold of %s: %q, want %q", c.name, got, c.want)
		}
	}
}

// P7.7: a thing of one kind into a row of another, and the ring stays as it was.
func TestFoldOfStructs(t *testing.T) {
	r := aroundOf(t, 1, pairOf(3), pairOf(1), pairOf(2))
	names := queue.Fold(r, []string{"begin"}, func(a []string, p pair) []string { return append(a, p.name) })
	alike(t, "Fold", names, []string{"begin", "the thing 3", "the thing 1", "the thing 2"})
	alike(t, "behind Fold", thingsOf(t, r), []pair{pairOf(3), pairOf(1), pairOf(2)})
}

// P7.8: all short rows of calls.
func TestAllShortRowsOfCalls(t *testing.T) {
	const calls, longest = 6, 6
	for most := 1; most <= 4; most++ {
		for length, rows := 1, calls; length <= longest; length, rows = length+1, rows*calls {
			for n := range rows {
				b := bothOf[int](t, most)
				for i, code := 0, n; i < length; i, code = i+1, code/calls {
					switch code % calls {
					case 0:
						b.push(10 + i)
					case 1:
						b.push(20 + i)
						b.push(30 + i)
					case 2:
						b.pop()
					case 3:
						b.drop(2)
					case 4:
						b.drop(-1)
					case 5:
						b.pop()
						b.push(40 + i)
					}
				}
				b.check()
			}
		}
	}
}

// longRow does a long row of calls to a ring and to a plain row.
func longRow[T comparable](t *testing.T, seed int64, most int, thing func(int) T) {
	random := rand.New(rand.NewSource(seed))
	b := bothOf[T](t, most)
	for i := range 2000 {
		leaning := i / 200 % 2 // now rather fuller, now rather emptier
		switch random.Intn(8) - leaning {
		case -1, 0, 1:
			b.pop()
		case 2:
			b.drop(random.Intn(most+2) - 1)
		default:
			b.push(thing(i))
		}
		if i%20 == 0 {
			b.check()
		}
	}
	b.check()
}

// P7.8
func TestLongRowsOfCalls(t *testing.T) {
	for seed := range int64(60) {
		most := 1 + int(seed)*int(seed)/20
		longRow(t, seed, most, number)
		longRow(t, seed, most, pairOf)
	}
}

// P7.2: as many things as a ring may have, and one more.
func TestRingOfMaxRing(t *testing.T) {
	r := ringOf[int](t, api.MaxRing)
	for i := range 1000 {
		r.Push(-i)
		r.Pop()
	}
	for i := range api.MaxRing {
		if e := r.Push(i); e != api.OK {
			t.Fatalf("Push %d: %d", i, e)
		}
	}
	if e := r.Push(7); e != api.ErrFull || r.Len() != api.MaxRing || r.Room() != 0 {
		t.Errorf("one more: %d, Len %d, Room %d", e, r.Len(), r.Room())
	}
	if v, ok := r.At(api.MaxRing - 1); v != api.MaxRing-1 || !ok {
		t.Errorf("the last: %d, %v", v, ok)
	}
	if v, ok := r.At(api.MaxRing); v != 0 || ok {
		t.Errorf("behind the last: %d, %v", v, ok)
	}
	seen := 0
	for i, v := range r.Each() {
		if i != seen || v != i {
			t.Fatalf("Each: %d, %d behind %d", i, v, seen)
		}
		seen++
	}
	if seen != api.MaxRing {
		t.Errorf("Each told %d", seen)
	}
	if n := r.Drop(api.MaxRing / 2); n != api.MaxRing/2 {
		t.Errorf("Drop: %d", n)
	}
	for i := api.MaxRing / 2; i < api.MaxRing; i++ {
		if v, ok := r.Pop(); v != i || !ok {
			t.Fatalf("Pop: %d, %v, want %d", v, ok, i)
		}
	}
	if v, ok := r.Pop(); v != 0 || ok || r.Room() != api.MaxRing {
		t.Errorf("Pop of none: %d, %v, Room %d", v, ok, r.Room())
	}
}

// P7.2: a ring that may have fewer than MaxRing, in which what it keeps its things in can't just double.
func TestRingOfOddBounds(t *testing.T) {
	for _, most := range []int{3, 5, 6, 7, 1000, 1023, 1024, 1025, api.MaxRing - 1} {
		r := ringOf[int](t, most)
		for i := range most {
			if e := r.Push(i); e != api.OK || r.Room() != most-i-1 {
				t.Fatalf("Push %d of %d: %d, Room %d", i, most, e, r.Room())
			}
		}
		if e := r.Push(most); e != api.ErrFull || r.Len() != most {
			t.Errorf("one more than %d: %d, Len %d", most, e, r.Len())
		}
		for i := range most {
			if v, ok := r.Pop(); v != i || !ok {
				t.Fatalf("Pop of %d: %d, %v, want %d", most, v, ok, i)
			}
		}
	}
}

// R2: two rings beside each other.
func TestTwoRings(t *testing.T) {
	a, b := bothOf[int](t, 3), bothOf[int](t, 4)
	random := rand.New(rand.NewSource(7))
	for i := range 500 {
		one, other := a, b
		if random.Intn(2) == 0 {
			one, other = b, a
		}
		switch random.Intn(4) {
		case 0:
			one.pop()
		case 1:
			one.drop(2)
		default:
			one.push(i)
		}
		one.check()
		other.check()
	}
}

// R3: what was told is the caller's, and later answers do not show what is written there.
func TestRingKeepsItsOwn(t *testing.T) {
	r := ringOf(t, 2, [2]int{1, 2}, [2]int{3, 4})
	for _, v := range r.Each() {
		v[0] = 9
	}
	v, _ := r.At(0)
	v[1] = 9
	alike(t, "the things", thingsOf(t, r), [][2]int{{1, 2}, {3, 4}})
}

// letGo tells how many of the things that are pointed to are kept alive by nothing any more.
func letGo(kept []weak.Pointer[pair]) (gone int) {
	runtime.GC()
	runtime.GC()
	for _, w := range kept {
		if w.Value() == nil {
			gone++
		}
	}
	return gone
}

// weakThings are things, and pointers that do not keep them alive.
func weakThings(n int) (things []*pair, kept []weak.Pointer[pair]) {
	for i := range n {
		p := pairOf(i)
		things = append(things, &p)
		kept = append(kept, weak.Make(&p))
	}
	return things, kept
}

// The chapter's Ways: the places that a ring has no thing at any more are cleared.
func TestRingLetsThingsGo(t *testing.T) {
	things, kept := weakThings(8)
	r := ringOf[*pair](t, 8)
	for range 8 + 3 { // so that what is dropped goes around the end
		if r.Room() == 0 {
			r.Drop(8)
		}
		r.Push(nil)
	}
	r.Drop(3)
	for _, p := range things {
		r.Push(p)
	}
	things = nil
	for range r.Each() {
	}
	if n := letGo(kept); n != 0 {
		t.Errorf("%d of a full ring's things are gone", n)
	}
	r.Pop()
	if n := letGo(kept); n != 1 {
		t.Errorf("behind a Pop %d are gone", n)
	}
	r.Drop(6)
	if n := letGo(kept); n != 7 {
		t.Errorf("behind Drop(6) %d are gone", n)
	}
	if p, ok := r.At(0); !ok || *p != pairOf(7) {
		t.Errorf("the last: %v, %v", p, ok)
	}
	r.Drop(1)
	if n := letGo(kept); n != 8 {
		t.Errorf("behind all %d are gone", n)
	}
	runtime.KeepAlive(r)
}
