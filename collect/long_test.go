package collect_test

import (
	"testing"

	"tenon/api"
	"tenon/heap"
)

const most = api.MaxHeap

// row is a heap of as many records as there may be, of which each names the one behind it, and the last one somebody, or nobody (0).
func row(t *testing.T, last api.Ref, roots ...api.Ref) *heap.Heap {
	t.Helper()
	names := make([][]api.Ref, most)
	for i := range names {
		names[i] = refs(api.Ref(i + 2))
	}
	names[most-1] = refs(last)
	return stored(t, roots, names...)
}

// mustSplit is that the last records of a row, so many, are live and all others go, by Sweep and by a cycle in steps of one size.
func mustSplit(t *testing.T, h *heap.Heap, size, live int) {
	t.Helper()
	mustLive(t, h, upTo(most)[most-live:]...)
	gone := upTo(most)[:most-live]
	clone := h.Clone()
	mustTake(t, "Sweep", clone, sweep(clone), gone...)
	c := begin(t, h)
	for done := 0; done < live; {
		mustRefuse(t, "End", h, c.End, api.ErrState)
		done += size
		mustStep(t, c, size, done >= live)
	}
	mustTake(t, "End", h, c.End, gone...)
	mustNotBeWatched(t, h)
}

// P15.1, P15.5: chains as long as can be, live and not, and rings: depth does no harm.
func TestLong(t *testing.T) {
	mustSplit(t, row(t, 0, 1), 1000, most)
	mustSplit(t, row(t, 0, most/2+1), 100, most/2)
	mustSplit(t, row(t, 0, most), 1, 1)
	mustSplit(t, row(t, 0), 1, 0)
	mustSplit(t, row(t, 1, 7), 999, most)
	mustSplit(t, row(t, 1), 1, 0)
	mustSplit(t, row(t, most/2+1, most/2+1), 300, most/2)
	mustSplit(t, row(t, most, 2, 1), 4000, most)
}

// P15.5: great rings through all that is garbage, with small ones in them, beside a ring that is live.
func TestGreatRings(t *testing.T) {
	names := make([][]api.Ref, most)
	for i := range names {
		names[i] = refs(api.Ref((i+2)%most+1), api.Ref(i^1+1), api.Ref(i+1))
	}
	names[most-2], names[most-1] = refs(most), refs(most-1, most)
	h := stored(t, refs(most), names...)
	mustLive(t, h, most-1, most)
	c := begin(t, h)
	mustStep(t, c, 1, false)
	mustStep(t, c, 1, true)
	mustTake(t, "End", h, c.End, upTo(most-2)...)
}

// P15.1: all name all, as far as a record can: what many name is seen once.
func TestAllNameAll(t *testing.T) {
	const n = 300
	names := make([][]api.Ref, n)
	for i := range names {
		names[i] = upTo(n)
	}
	h := stored(t, refs(n), names...)
	mustLive(t, h, upTo(n)...)
	c := begin(t, h)
	for i := range n {
		mustStep(t, c, 1, i == n-1)
	}
	put(t, h, n)
	mustStep(t, c, 1, true)
	mustTake(t, "what was live is spared", h, c.End)
	mustTake(t, "Sweep", h, sweep(h), upTo(n-1)...)
}

// P15.2, P15.3, P15.4: a change ahead of each step of a long cycle, that saves one more of the garbage.
func TestLongChanges(t *testing.T) {
	const saved = 1000
	h := row(t, 0, 1)
	put(t, h, most/2) // all behind it is garbage
	c := begin(t, h)
	for i := range saved {
		put(t, h, api.Ref(i+1), api.Ref(i+2), api.Ref(most-i))
		mustStep(t, c, 1, false)
	}
	mustSpare(t, "End", h, c, upTo(most)[most/2:most-saved]...)
	mustLive(t, h, append(upTo(most/2), upTo(most)[most-saved:]...)...)
}

// P15.2: as many roots as there may be, of one record and of all.
func TestManyRoots(t *testing.T) {
	h := stored(t, upTo(most)[:most-1], make([][]api.Ref, most)...)
	mustTake(t, "Sweep", h, sweep(h), most)
	root(t, h, add(t, h))
	c := begin(t, h)
	mustStep(t, c, most-1, false)
	mustStep(t, c, 1, true)
	for _, id := range upTo(most - 1) {
		unroot(t, h, id)
	}
	mustStep(t, c, 1, true)
	mustTake(t, "what was live may stay", h, c.End)
	mustTake(t, "Sweep", h, sweep(h), upTo(most-1)...)
}
