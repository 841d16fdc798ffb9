package collect

import (
	"maps"
	"slices"

	"tenon/api"
	"tenon/heap"
)

// mark is how far the collector is with a record that it has seen.
type mark int

const (
	waits  mark = 1 // to be looked through
	looked mark = 2 // whom it names was seen, too
)

// marks is what was seen of a heap, going from the roots.
type marks struct {
	h    *heap.Heap
	seen map[api.Ref]mark
	left []api.Ref // those that wait, each once
}

// none is the marks of a heap of which nothing was seen yet.
func none(h *heap.Heap) marks { return marks{h: h, seen: map[api.Ref]mark{}} }

// copied is the same marks, which go on by themselves.
func (m *marks) copied() marks {
	return marks{h: m.h, seen: maps.Clone(m.seen), left: slices.Clone(m.left)}
}

// allOf is the marks of a heap that was looked through.
func allOf(h *heap.Heap) *marks {
	m := none(h)
	m.seeRoots()
	for len(m.left) > 0 {
		m.look()
	}
	return &m
}

// see has records wait that were not seen yet.
func (m *marks) see(ids ...api.Ref) {
	for _, id := range ids {
		if m.seen[id] == 0 {
			m.seen[id] = waits
			m.left = append(m.left, id)
		}
	}
}

// seeRoots sees all roots. Without one nothing is live any more, so that there is nothing to look through, whatever was seen.
func (m *marks) seeRoots() {
	roots := m.h.Roots()
	if len(roots) == 0 {
		*m = none(m.h)
	}
	for _, r := range roots {
		m.see(r.ID)
	}
}

// look looks through one that waits: the last, so that what waits is a stack, and depth does no harm.
func (m *marks) look() {
	last := len(m.left) - 1
	id := m.left[last]
	m.left = m.left[:last]
	m.seen[id] = looked
	named, _ := m.h.Names(id) // what waits is there: forget sees to it
	m.see(named...)
}

// follow sees what a record names now, if it was looked through ahead of that; what waits is yet to be looked through, and what was not seen may be garbage.
func (m *marks) follow(id api.Ref) {
	named, e := m.h.Names(id)
	switch {
	case e != api.OK:
		m.forget(id)
	case m.seen[id] == looked:
		m.see(named...)
	}
}

// forget is that a record is gone.
func (m *marks) forget(id api.Ref) {
	if m.seen[id] == waits {
		m.left = slices.DeleteFunc(m.left, func(other api.Ref) bool { return other == id })
	}
	delete(m.seen, id)
}

// unseen is all records that were not seen, rising.
func (m *marks) unseen() []api.Ref {
	return slices.DeleteFunc(m.h.IDs(), func(id api.Ref) bool { return m.seen[id] != 0 })
}
