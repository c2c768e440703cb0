package queue_test

import (
	"testing"

	"posthorn/api"
	"posthorn/queue"
)

// The rows of the chapter's section Examples, one behind the other.

func TestExamplesNew(t *testing.T) {
	for _, most := range []int{0, 1048577} {
		if r, e := queue.New[int](most); r != nil || e != api.ErrArg {
			t.Errorf("New(%d): %v, %d", most, r, e)
		}
	}
}

func TestExamplesRing(t *testing.T) {
	r, e := queue.New[int](2)
	if r == nil || e != api.OK {
		t.Fatalf("New(2): %v, %d", r, e)
	}
	for _, c := range []struct {
		v    int
		want api.Errno
	}{{7, api.OK}, {8, api.OK}, {9, api.ErrFull}} {
		if e := r.Push(c.v); e != c.want {
			t.Errorf("Push %d: %d, want %d", c.v, e, c.want)
		}
	}
	if r.Len() != 2 || r.Room() != 0 {
		t.Errorf("Len %d, Room %d", r.Len(), r.Room())
	}
	for _, c := range []struct {
		i, want int
		ok      bool
	}{{0, 7, true}, {1, 8, true}, {2, 0, false}, {-1, 0, false}} {
		if v, ok := r.At(c.i); v != c.want || ok != c.ok {
			t.Errorf("At(%d): %d, %v", c.i, v, ok)
		}
	}
	if v, ok := r.Pop(); v != 7 || !ok {
		t.Errorf("Pop: %d, %v", v, ok)
	}
	if e := r.Push(9); e != api.OK {
		t.Errorf("Push 9: %d", e)
	}
	var places, things []int
	for i, v := range r.Each() {
		places, things = append(places, i), append(things, v)
	}
	alike(t, "Each's places", places, []int{0, 1})
	alike(t, "Each's things", things, []int{8, 9})
	if n := r.Drop(-1); n != 0 {
		t.Errorf("Drop(-1): %d", n)
	}
	if n := r.Drop(9); n != 2 {
		t.Errorf("Drop(9): %d", n)
	}
	if v, ok := r.Pop(); v != 0 || ok {
		t.Errorf("Pop of none: %d, %v", v, ok)
	}
}

func TestExamplesHeap(t *testing.T) {
	h := queue.NewHeap(byKey)
	for _, p := range []pair{{2, "a"}, {1, "b"}, {2, "c"}, {1, "d"}} {
		if e := h.Push(p); e != api.OK {
			t.Errorf("Push %v: %d", p, e)
		}
	}
	if p, ok := h.Peek(); p != (pair{1, "b"}) || !ok {
		t.Errorf("Peek: %v, %v", p, ok)
	}
	for _, want := range []pair{{1, "b"}, {1, "d"}, {2, "a"}, {2, "c"}} {
		if p, ok := h.Pop(); p != want || !ok {
			t.Errorf("Pop: %v, %v, want %v", p, ok, want)
		}
	}
	if p, ok := h.Pop(); p != (pair{}) || ok {
		t.Errorf("Pop of none: %v, %v", p, ok)
	}
}

func TestExamplesHeapOfNoOrder(t *testing.T) {
	h := queue.NewHeap[int](nil)
	if h != nil {
		t.Errorf("NewHeap(nil): %v", h)
	}
	if e := h.Push(1); e != api.ErrNil {
		t.Errorf("Push: %d", e)
	}
}

func TestExamplesFold(t *testing.T) {
	r := ringOf(t, 3, 1, 2, 3)
	if n := queue.Fold(r, 10, func(a, v int) int { return a + v }); n != 16 {
		t.Errorf("Fold: %d", n)
	}
}
