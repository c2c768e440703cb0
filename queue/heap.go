package queue

import "posthorn/api"

// Heap gives the least first, and of several alike the one that came first.
type Heap[T any] struct {
	compare func(a, b T) int // nil of one that NewHeap did not make
	things  []waiting[T]     // none goes ahead of the one at half its place (places counted from 1 on)
	pushed  uint64           // how many ever were
}

// waiting is a thing with its number: how many were pushed ahead of it.
type waiting[T any] struct {
	thing  T
	number uint64
}

// NewHeap makes one of an order.
func NewHeap[T any](compare func(a, b T) int) *Heap[T] {
	if compare == nil {
		return nil
	}
	return &Heap[T]{compare: compare}
}

// there tells whether the heap is one that this package made.
func (h *Heap[T]) there() bool { return h != nil && h.compare != nil }

// Push lays one in.
func (h *Heap[T]) Push(v T) api.Errno {
	if !h.there() {
		return api.ErrNil
	}
	if len(h.things) == api.MaxRing {
		return api.ErrFull
	}
	h.things = append(h.things, waiting[T]{v, h.pushed})
	h.pushed++
	h.rise(len(h.things) - 1)
	return api.OK
}

// Pop takes the least.
func (h *Heap[T]) Pop() (T, bool) {
	v, ok := h.Peek()
	if !ok {
		return v, false
	}
	last := len(h.things) - 1
	h.things[0] = h.things[last]
	// What a thing points to would be kept alive by a place that still has it.
	clear(h.things[last:])
	h.things = h.things[:last]
	h.sink(0)
	return v, true
}

// Peek looks at it.
func (h *Heap[T]) Peek() (T, bool) {
	if h.Len() == 0 {
		var none T
		return none, false
	}
	return h.things[0].thing, true
}

// Len is how many there are.
func (h *Heap[T]) Len() int {
	if !h.there() {
		return 0
	}
	return len(h.things)
}

// ahead tells whether the thing at place i is to be told ahead of the one at place j.
func (h *Heap[T]) ahead(i, j int) bool {
	a, b := h.things[i], h.things[j]
	c := h.compare(a.thing, b.thing)
	return c < 0 || c == 0 && a.number < b.number
}

// swap lets two things change their places.
func (h *Heap[T]) swap(i, j int) { h.things[i], h.things[j] = h.things[j], h.things[i] }

// rise brings the thing at place i up, past those that it goes ahead of.
func (h *Heap[T]) rise(i int) {
	// A function that is no order may panic, or take things away while it is asked. Things only ever
	// change places with one another, so all that are there still are, wherever this is left.
	defer func() { recover() }()
	for i > 0 {
		above := (i - 1) / 2
		if !h.ahead(i, above) {
			return
		}
		h.swap(i, above)
		i = above
	}
}

// sink brings the thing at place i down, past those that go ahead of it.
func (h *Heap[T]) sink(i int) {
	// As with rise.
	defer func() { recover() }()
	for below := 2*i + 1; below < len(h.things); below = 2*i + 1 {
		if below+1 < len(h.things) && h.ahead(below+1, below) {
			below++
		}
		if !h.ahead(below, i) {
			return
		}
		h.swap(below, i)
		i = below
	}
}
