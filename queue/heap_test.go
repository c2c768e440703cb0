package queue_test

import (
	"cmp"
	"math"
	"math/rand"
	"runtime"
	"slices"
	"testing"

	"posthorn/api"
	"posthorn/queue"
)

// byKey is the order by a pair's first.
func byKey(a, b pair) int { return cmp.Compare(a.key, b.key) }

// heapOf is a heap of an order, with these things.
func heapOf[T any](t *testing.T, compare func(a, b T) int, things ...T) *queue.Heap[T] {
	t.Helper()
	h := queue.NewHeap(compare)
	if h == nil {
		t.Fatal("NewHeap of an order is nil")
	}
	for _, v := range things {
		if e := h.Push(v); e != api.OK {
			t.Fatalf("Push of one of %d things: %d", len(things), e)
		}
	}
	return h
}

// popped is all that a heap's Pops tell, Peek and Len being held against them.
func popped[T comparable](t *testing.T, h *queue.Heap[T]) (told []T) {
	t.Helper()
	for n := h.Len(); n > 0; n-- {
		peek, there := h.Peek()
		if h.Len() != n {
			t.Fatalf("Len behind Peek: %d, want %d", h.Len(), n)
		}
		v, ok := h.Pop()
		if !ok || !there || v != peek || h.Len() != n-1 {
			t.Fatalf("Peek %v, %v, Pop %v, %v, Len %d of %d", peek, there, v, ok, h.Len(), n)
		}
		told = append(told, v)
	}
	none(t, h)
	return told
}

// none holds a heap against one without things.
func none[T comparable](t *testing.T, h *queue.Heap[T]) {
	t.Helper()
	var zero T
	if v, ok := h.Peek(); v != zero || ok {
		t.Errorf("Peek of none: %v, %v", v, ok)
	}
	if v, ok := h.Pop(); v != zero || ok {
		t.Errorf("Pop of none: %v, %v", v, ok)
	}
	if h.Len() != 0 {
		t.Errorf("Len of none: %d", h.Len())
	}
}

// bag is a plain row beside a heap: what is to come is looked for in all of it.
type bag[T comparable] struct {
	compare func(a, b T) int
	things  []T
}

// next is the place of the first thing than which none is less.
func (m *bag[T]) next() int {
	at := 0
	for i, v := range m.things {
		if m.compare(v, m.things[at]) < 0 {
			at = i
		}
	}
	return at
}

func (m *bag[T]) peek() (v T, ok bool) {
	if len(m.things) == 0 {
		return v, false
	}
	return m.things[m.next()], true
}

func (m *bag[T]) pop() (T, bool) {
	v, ok := m.peek()
	if ok {
		at := m.next()
		m.things = slices.Delete(m.things, at, at+1)
	}
	return v, ok
}

// beside is a heap and a bag beside each other.
type beside[T comparable] struct {
	t *testing.T
	h *queue.Heap[T]
	m *bag[T]
}

func besideOf[T comparable](t *testing.T, compare func(a, b T) int) beside[T] {
	t.Helper()
	return beside[T]{t, heapOf(t, compare), &bag[T]{compare: compare}}
}

func (b beside[T]) push(v T) {
	b.t.Helper()
	b.m.things = append(b.m.things, v)
	if e := b.h.Push(v); e != api.OK {
		b.t.Fatalf("Push %v: %d", v, e)
	}
	b.check()
}

func (b beside[T]) pop() {
	b.t.Helper()
	v, ok := b.h.Pop()
	if want, wantOk := b.m.pop(); v != want || ok != wantOk {
		b.t.Fatalf("Pop: %v, %v, want %v, %v", v, ok, want, wantOk)
	}
	b.check()
}

func (b beside[T]) check() {
	b.t.Helper()
	v, ok := b.h.Peek()
	if want, wantOk := b.m.peek(); v != want || ok != wantOk || b.h.Len() != len(b.m.things) {
		b.t.Fatalf("Peek: %v, %v, Len %d, want %v, %v, %d", v, ok, b.h.Len(), want, wantOk, len(b.m.things))
	}
}

// P7.5, P7.6, R1
func TestNoHeap(t *testing.T) {
	if queue.NewHeap[pair](nil) != nil || queue.NewHeap[int](nil) != nil {
		t.Error("NewHeap(nil) is one")
	}
	var zero queue.Heap[pair]
	for _, h := range []*queue.Heap[pair]{nil, &zero, new(queue.Heap[pair]), queue.NewHeap[pair](nil)} {
		for range 2 { // nothing comes of it
			if e := h.Push(pairOf(1)); e != api.ErrNil {
				t.Errorf("Push: %d", e)
			}
			none(t, h)
		}
	}
}

// P7.5, P7.6
func TestHeapWithoutThings(t *testing.T) {
	none(t, heapOf(t, byKey))
	h := heapOf(t, byKey, pairOf(5))
	alike(t, "one thing", popped(t, h), []pair{pairOf(5)})
	none(t, h)
	h.Push(pairOf(6))
	alike(t, "one thing again", popped(t, h), []pair{pairOf(6)})
}

// P7.6, P7.9: all short rows of Pushes and Pops, of few keys.
func TestAllShortRowsOfHeapCalls(t *testing.T) {
	const calls, length, rows = 4, 8, 65536
	for n := range rows {
		b := besideOf(t, byKey)
		for i, code := 0, n; i < length; i, code = i+1, code/calls {
			if key := code % calls; key < 3 {
				p := pairOf(i)
				p.key = key
				b.push(p)
				continue
			}
			b.pop()
		}
		for len(b.m.things) > 0 {
			b.pop()
		}
		b.pop()
	}
}

// P7.6, P7.9: every order in which up to seven things, all unlike, may come.
func TestHeapOfEveryOrder(t *testing.T) {
	for n := 1; n <= 7; n++ {
		want := make([]int, n)
		for i := range want {
			want[i] = i
		}
		inEveryOrder(slices.Clone(want), 0, func(things []int) {
			h := heapOf(t, cmp.Compare[int], things...)
			alike(t, "popped", popped(t, h), want)
		})
	}
}

func inEveryOrder(things []int, from int, do func([]int)) {
	if from == len(things) {
		do(things)
		return
	}
	for i := from; i < len(things); i++ {
		things[from], things[i] = things[i], things[from]
		inEveryOrder(things, from+1, do)
		things[from], things[i] = things[i], things[from]
	}
}

// P7.9: against a sorting that keeps those alike in their order.
func TestHeapAgainstSorting(t *testing.T) {
	random := rand.New(rand.NewSource(1))
	for _, keys := range []int{1, 2, 3, 10, 100, 1 << 30} {
		for _, n := range []int{2, 3, 10, 63, 64, 65, 1000, 5000} {
			things := make([]pair, n)
			for i := range things {
				things[i] = pairOf(i)
				things[i].key = random.Intn(keys) - keys/2
			}
			h := heapOf(t, byKey, things...)
			want := slices.Clone(things)
			slices.SortStableFunc(want, byKey)
			alike(t, "popped", popped(t, h), want)
		}
	}
}

// P7.9: rows that rise, fall, and stay.
func TestHeapOfSortedRows(t *testing.T) {
	for _, key := range []func(i int) int{
		func(i int) int { return i },
		func(i int) int { return -i },
		func(i int) int { return i / 10 },
		func(i int) int { return -i / 10 },
		func(i int) int { return i % 10 },
		func(i int) int { return 0 },
	} {
		var things []pair
		for i := range 300 {
			p := pairOf(i)
			p.key = key(i)
			things = append(things, p)
		}
		h := heapOf(t, byKey, things...)
		slices.SortStableFunc(things, byKey)
		alike(t, "popped", popped(t, h), things)
	}
}

// P7.6, P7.9: Pushes between Pops.
func TestLongRowsOfHeapCalls(t *testing.T) {
	for seed := range int64(40) {
		random := rand.New(rand.NewSource(seed))
		keys := 1 + int(seed)
		b := besideOf(t, byKey)
		for i := range 1000 {
			leaning := i / 100 % 2 // now rather fuller, now rather emptier
			if random.Intn(5) < 1+2*leaning {
				b.pop()
				continue
			}
			p := pairOf(i)
			p.key = random.Intn(keys)
			b.push(p)
		}
		for len(b.m.things) > 0 {
			b.pop()
		}
		b.pop()
	}
}

// P7.6: numbers of the order as great and as small as there are; only their sign counts.
func TestHeapOfGreatAnswers(t *testing.T) {
	things := []int{5, math.MinInt, 0, math.MaxInt, -1, 5, math.MinInt, 7}
	for _, size := range []int{1, 2, 1000, math.MaxInt} {
		h := heapOf(t, func(a, b int) int { return size * cmp.Compare(a, b) }, things...)
		alike(t, "popped", popped(t, h), slices.Sorted(slices.Values(things)))
	}
	h := heapOf(t, func(a, b int) int {
		switch {
		case a < b:
			return math.MinInt
		case a > b:
			return math.MaxInt
		}
		return 0
	}, things...)
	alike(t, "popped", popped(t, h), slices.Sorted(slices.Values(things)))
}

// P7.6: the order decides, not the numbers themselves.
func TestHeapOfOtherOrders(t *testing.T) {
	things := []int{3, 1, 4, 1, 5, 9, 2, 6, 5, 3}
	down := heapOf(t, func(a, b int) int { return cmp.Compare(b, a) }, things...)
	alike(t, "the greatest first", popped(t, down), []int{9, 6, 5, 5, 4, 3, 3, 2, 1, 1})
	odd := heapOf(t, func(a, b int) int { return cmp.Compare(a%2, b%2) }, things...)
	alike(t, "the even ones first", popped(t, odd), []int{4, 2, 6, 3, 1, 1, 5, 9, 5, 3})
}

// P7.6: as many things as a heap may have, and one more.
func TestHeapOfMaxRing(t *testing.T) {
	h := heapOf(t, func(a, b [2]int32) int { return cmp.Compare(a[0], b[0]) })
	const keys = 1 << 12
	for i := range int32(api.MaxRing) {
		if e := h.Push([2]int32{i % keys * 7919 % keys, i}); e != api.OK {
			t.Fatalf("Push %d: %d", i, e)
		}
	}
	for range 2 {
		if e := h.Push([2]int32{-1, -1}); e != api.ErrFull || h.Len() != api.MaxRing {
			t.Errorf("one more: %d, Len %d", e, h.Len())
		}
	}
	first, _ := h.Pop()
	if first != [2]int32{0, 0} {
		t.Errorf("the first: %v", first)
	}
	if e := h.Push([2]int32{0, api.MaxRing}); e != api.OK {
		t.Errorf("Push behind a Pop: %d", e)
	}
	last := [2]int32{0, 0}
	for range api.MaxRing {
		v, ok := h.Pop()
		if !ok || v[0] < last[0] || v[0] == last[0] && v[1] <= last[1] {
			t.Fatalf("Pop: %v, %v behind %v", v, ok, last)
		}
		last = v
	}
	none(t, h)
}

// strange are functions that are no orders.
func strange() map[string]func(a, b int) int {
	asked := 0
	random := rand.New(rand.NewSource(3))
	return map[string]func(a, b int) int{
		"always less":    func(a, b int) int { return -1 },
		"always greater": func(a, b int) int { return 1 },
		"in turns":       func(a, b int) int { asked++; return asked%3 - 1 },
		"by chance":      func(a, b int) int { return random.Intn(3) - 1 },
		"in a ring":      func(a, b int) int { return (a-b+4)%3 - 1 },
		"it panics":      func(a, b int) int { panic("no order") },
		"it panics with an error": func(a, b int) int {
			var none []int
			return none[a]
		},
		"it panics now and then": func(a, b int) int {
			if asked++; asked%4 == 0 {
				panic(asked)
			}
			return a - b
		},
	}
}

// P7.5, P7.9, R1: what is told of a heap by a function that is no order is there, each thing once.
func TestHeapByNoOrder(t *testing.T) {
	random := rand.New(rand.NewSource(4))
	for name, compare := range strange() {
		h := queue.NewHeap(compare)
		if h == nil {
			t.Fatalf("%s: NewHeap is nil", name)
		}
		there := map[int]bool{}
		pop := func() {
			t.Helper()
			peek, some := h.Peek()
			v, ok := h.Pop()
			if ok != (len(there) > 0) || some != ok || peek != v || ok && !there[v] {
				t.Fatalf("%s: Peek %d, %v, Pop %d, %v of %v", name, peek, some, v, ok, there)
			}
			delete(there, v)
			if h.Len() != len(there) {
				t.Fatalf("%s: Len %d, want %d", name, h.Len(), len(there))
			}
		}
		for i := range 2000 {
			if random.Intn(3) == 0 {
				pop()
				continue
			}
			if e := h.Push(i + 1); e != api.OK {
				t.Fatalf("%s: Push: %d", name, e)
			}
			there[i+1] = true
		}
		for len(there) > 0 {
			pop()
		}
		pop()
	}
}

// meddler is a heap whose order changes it while it is asked, and what was told of it.
type meddler struct {
	t             *testing.T
	h             *queue.Heap[int]
	pushes, pops  int // how many at a time
	last          int // the thing that was pushed last
	told          map[int]int
	asked, within int
}

func (m *meddler) push() {
	m.last++
	if e := m.h.Push(m.last); e != api.OK {
		m.t.Fatalf("Push: %d", e)
	}
}

func (m *meddler) pop() bool {
	v, ok := m.h.Pop()
	if ok {
		m.told[v]++
	}
	return ok
}

func (m *meddler) compare(a, b int) int {
	m.asked++
	if m.within == 0 && m.asked%5 == 0 {
		m.within++
		for range m.pushes {
			m.push()
		}
		for range m.pops {
			m.pop()
		}
		m.within--
	}
	return cmp.Compare(a*7919%101, b*7919%101)
}

// R1, P7.9: a function that changes the heap while it is asked. Every thing is told once all the same.
func TestHeapChangedWhileAsked(t *testing.T) {
	for _, m := range []*meddler{
		{pops: 1}, {pops: 3}, {pops: 1000}, {pushes: 1}, {pushes: 2}, {pushes: 1, pops: 1}, {pushes: 2, pops: 3},
	} {
		m.t, m.told = t, map[int]int{}
		m.h = queue.NewHeap(m.compare)
		for i := range 500 {
			m.push()
			if i%3 == 0 {
				m.pop()
			}
		}
		m.within = 1 // no changes any more
		for m.pop() {
		}
		for v := 1; v <= m.last; v++ {
			if m.told[v] != 1 {
				t.Fatalf("with %d pushes and %d pops: %d was told %d times", m.pushes, m.pops, v, m.told[v])
			}
		}
		if len(m.told) != m.last {
			t.Errorf("%d things were told of %d", len(m.told), m.last)
		}
		none(t, m.h)
	}
}

// P7.10: all alike, so the heap is a ring.
func TestHeapOfThingsAlike(t *testing.T) {
	for seed := range int64(20) {
		random := rand.New(rand.NewSource(seed))
		h := heapOf(t, func(a, b pair) int { return 0 })
		r := ringOf[pair](t, api.MaxRing)
		for i := range 1000 {
			leaning := i / 100 % 2
			if random.Intn(5) < 1+2*leaning {
				first, there := r.At(0)
				if v, ok := h.Peek(); v != first || ok != there {
					t.Fatalf("Peek: %v, %v, At(0) %v, %v", v, ok, first, there)
				}
				want, wantOk := r.Pop()
				if v, ok := h.Pop(); v != want || ok != wantOk {
					t.Fatalf("Pop: %v, %v, the ring's %v, %v", v, ok, want, wantOk)
				}
			} else if e, want := h.Push(pairOf(i)), r.Push(pairOf(i)); e != want {
				t.Fatalf("Push: %d, the ring's %d", e, want)
			}
			if h.Len() != r.Len() {
				t.Fatalf("Len %d, the ring's %d", h.Len(), r.Len())
			}
		}
	}
}

// P7.10: up to MaxRing, and one more.
func TestHeapOfMaxRingAlike(t *testing.T) {
	h := heapOf(t, func(a, b int) int { return 0 })
	r := ringOf[int](t, api.MaxRing)
	for i := range api.MaxRing + 1 {
		if e, want := h.Push(i), r.Push(i); e != want {
			t.Fatalf("Push %d: %d, the ring's %d", i, e, want)
		}
	}
	for range api.MaxRing + 1 {
		want, wantOk := r.Pop()
		if v, ok := h.Pop(); v != want || ok != wantOk {
			t.Fatalf("Pop: %d, %v, the ring's %d, %v", v, ok, want, wantOk)
		}
	}
}

// R2: two heaps beside each other, and a ring.
func TestTwoHeaps(t *testing.T) {
	up := besideOf(t, cmp.Compare[int])
	down := besideOf(t, func(a, b int) int { return cmp.Compare(b, a) })
	r := bothOf[int](t, 5)
	random := rand.New(rand.NewSource(9))
	for range 500 {
		v := random.Intn(50)
		switch random.Intn(6) {
		case 0:
			up.pop()
		case 1:
			down.pop()
		case 2:
			r.pop()
		case 3:
			up.push(v)
		case 4:
			down.push(v)
		case 5:
			r.push(v)
		}
		up.check()
		down.check()
		r.check()
	}
}

// A place that a heap has no thing at any more is cleared, as a ring's are.
func TestHeapLetsThingsGo(t *testing.T) {
	things, kept := weakThings(8)
	h := heapOf(t, func(a, b *pair) int { return byKey(*a, *b) }, things...)
	things = nil
	for gone := range 8 {
		if n := letGo(kept); n != gone {
			t.Errorf("behind %d Pops %d are gone", gone, n)
		}
		h.Pop()
	}
	if n := letGo(kept); n != 8 {
		t.Errorf("behind all %d are gone", n)
	}
	runtime.KeepAlive(h)
}
