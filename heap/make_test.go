package heap_test

import (
	"fmt"
	"slices"
	"testing"

	"tenon/api"
	"tenon/heap"
	"tenon/sample"
	"tenon/value"
)

// lastNext is the greatest Next.
const lastNext api.Ref = 1 << 62

// empty is a heap, which must be made.
func empty(t *testing.T, room int) *heap.Heap {
	t.Helper()
	h, e := heap.New(room)
	if h == nil || e != api.OK {
		t.Fatal("New", room, e)
	}
	return h
}

// load is the heap of an image that can be.
func load(t *testing.T, x api.Image) *heap.Heap {
	t.Helper()
	h, e := heap.Load(x)
	if h == nil || e != api.OK {
		t.Fatal("Load", e)
	}
	return h
}

// add puts records in, which must go.
func add(t *testing.T, h *heap.Heap, records ...*api.Record) {
	t.Helper()
	for _, r := range records {
		next := h.Image().Next
		if id, e := h.Add(r); id != next || e != api.OK {
			t.Fatalf("Add of %s: %d, %d, want %d", sample.Told(r), id, e, next)
		}
	}
}

// ring is a heap with records 1 to 3 of which each names the one behind it, 3 names 1, and 4, whom nobody names, names 4 and 2.
func ring(t *testing.T) *heap.Heap {
	t.Helper()
	return load(t, api.Image{Room: 5, Next: 5, Records: append(sample.StoredNaming(3), api.Stored{ID: 4, Record: sample.Naming(4, 2)})})
}

// shown is an image as it is read.
func shown(x api.Image) string {
	s := fmt.Sprint("room ", x.Room, ", next ", x.Next)
	for _, r := range x.Records {
		if len(s) > 1000 {
			return s + " .."
		}
		s += fmt.Sprint(", ", r.ID, ": ", sample.Told(r.Record))
	}
	for _, r := range x.Roots {
		if len(s) > 1200 {
			return s + " .."
		}
		s += fmt.Sprint(", ", r.Name, " = ", r.ID)
	}
	return s
}

func must(t *testing.T, name any, got, want api.Errno) {
	t.Helper()
	if got != want {
		t.Errorf("%v: %d, want %d", name, got, want)
	}
}

func mustImage(t *testing.T, name any, h *heap.Heap, want api.Image) {
	t.Helper()
	if got := h.Image(); !sample.SameImages(got, want) {
		t.Errorf("%v: %s\nwant %s", name, shown(got), shown(want))
	}
}

// mustStay makes calls that must change nothing and tell nobody.
func mustStay(t *testing.T, name any, h *heap.Heap, calls func()) {
	t.Helper()
	ahead := h.Image()
	w := watch(t, h)
	calls()
	w.must(t)
	w.unwatch(t)
	mustImage(t, name, h, ahead)
}

func mustGet(t *testing.T, h *heap.Heap, id api.Ref, want *api.Record) {
	t.Helper()
	if r, e := h.Get(id); e != api.OK || !value.Same(r, want) {
		t.Errorf("Get(%d): %s, %d, want %s", id, sample.Told(r), e, sample.Told(want))
	}
}

// mustRefs holds identities with OK against what is wanted.
func mustRefs(t *testing.T, name any, got []api.Ref, e api.Errno, want ...api.Ref) {
	t.Helper()
	if !slices.Equal(got, want) || e != api.OK {
		t.Errorf("%v: %d, %d, want %d", name, got, e, want)
	}
}

func mustName(t *testing.T, h *heap.Heap, id api.Ref, want ...api.Ref) {
	t.Helper()
	l, e := h.Names(id)
	mustRefs(t, fmt.Sprint("Names of ", id), l, e, want...)
}

func mustBeNamed(t *testing.T, h *heap.Heap, id api.Ref, want ...api.Ref) {
	t.Helper()
	l, e := h.Namers(id)
	mustRefs(t, fmt.Sprint("Namers of ", id), l, e, want...)
}

// mustBeGone is of an identity that is not there: every call tells so.
func mustBeGone(t *testing.T, h *heap.Heap, id api.Ref) {
	t.Helper()
	r, e := h.Get(id)
	l, f := h.Names(id)
	m, g := h.Namers(id)
	o, i := h.Object(id)
	if r != nil || len(l)+len(m) > 0 || o != nil || e != api.ErrIdentity || f != e || g != e || i != e {
		t.Error(id, sample.Told(r), l, m, o, e, f, g, i)
	}
	mustStay(t, id, h, func() {
		must(t, "Put", h.Put(id, sample.Naming()), api.ErrIdentity)
		must(t, "Put of what can't be", h.Put(id, nil), api.ErrIdentity)
		must(t, "Drop", h.Drop(id), api.ErrIdentity)
		must(t, "Remove", h.Remove([]api.Ref{id}), api.ErrIdentity)
	})
}

// watching is a watcher that writes down what it is told.
type watching struct {
	h      *heap.Heap
	number int
	told   []api.Ref
}

func watch(t *testing.T, h *heap.Heap) *watching {
	t.Helper()
	w := &watching{h: h}
	n, e := h.Watch(func(id api.Ref) { w.told = append(w.told, id) })
	if n < 1 || e != api.OK {
		t.Fatal("Watch", n, e)
	}
	w.number = n
	return w
}

// must holds what was told, since the last time that it was held, against what is wanted.
func (w *watching) must(t *testing.T, want ...api.Ref) {
	t.Helper()
	if !slices.Equal(w.told, want) {
		t.Errorf("told: %d, want %d", w.told, want)
	}
	w.told = nil
}

func (w *watching) unwatch(t *testing.T) {
	t.Helper()
	must(t, "Unwatch", w.h.Unwatch(w.number), api.OK)
}
