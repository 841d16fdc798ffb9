package collect_test

import (
	"testing"

	"tenon/api"
	"tenon/collect"
	"tenon/heap"
)

// Several cycles of one heap know nothing of one another: each answers as it would alone.
func TestSeveral(t *testing.T) {
	for steps := range 4 {
		h := stored(t, refs(1), refs(2), refs(3), nil, refs(4))
		a, b, c := begin(t, h), begun(t, h, steps), begin(t, h)
		mustStep(t, a, 3, true)
		mustStep(t, b, enough(h), true)
		mustRefuse(t, "End of another one", h, c.End, api.ErrState)
		mustStep(t, c, 1, false)
		must(t, "Stop", b.Stop(), api.OK)
		mustBeOver(t, h, b)
		mustTake(t, "End", h, a.End, 4)
		mustBeOver(t, h, a)
		mustStep(t, c, 1, false)
		mustStep(t, c, 1, true)
		mustTake(t, "End behind End", h, c.End)
		mustNotBeWatched(t, h)
	}
}

// P15.3, P15.4: one cycle takes away what another one looked at, or waits to look at, or has not seen.
func TestOneTakesFromAnother(t *testing.T) {
	for steps := range 6 {
		h := stored(t, refs(1, 2), refs(3), refs(4), refs(5), nil, nil, refs(6))
		old := begun(t, h, steps)
		put(t, h, 1)
		unroot(t, h, 2)
		taker := begin(t, h)
		mustStep(t, taker, enough(h), true)
		mustTake(t, "the taker", h, taker.End, 2, 3, 4, 5, 6)
		mustSpare(t, steps, h, old)
		mustLive(t, h, 1)
	}
}

// P15.3: what one took away is not there for the other; what the other one saved by then is not taken.
func TestSeveralAndChanges(t *testing.T) {
	h := stored(t, refs(1), refs(2), nil, refs(4), refs(3), refs(6), refs(5))
	a, b := begun(t, h, 1), begin(t, h)
	put(t, h, 2, 3)
	mustStep(t, a, enough(h), true)
	mustTake(t, "a", h, a.End, 5, 6)
	put(t, h, 2)
	c := begin(t, h)
	mustStep(t, c, enough(h), true)
	mustTake(t, "c", h, c.End, 3, 4)
	mustSpare(t, "b", h, b)
	mustLive(t, h, 1, 2)
}

// Cycles of a heap, of its clone and of one of its image are each of their own heap.
func TestHeapsApart(t *testing.T) {
	h := stored(t, refs(1), nil, refs(3), nil)
	clone, loaded := h.Clone(), load(t, h.Image())
	all := []*heap.Heap{h, clone, loaded}
	var cycles []*collect.Cycle
	for _, x := range all {
		cycles = append(cycles, begin(t, x))
	}
	put(t, clone, 1, 2)
	root(t, loaded, 3)
	for i, want := range [][]api.Ref{refs(2, 3), nil, refs(2)} {
		mustStep(t, cycles[i], enough(all[i]), true)
		mustTake(t, i, all[i], cycles[i].End, want...)
		mustNotBeWatched(t, all[i])
	}
}

// Many cycles at once: each is told of all, and none watches when all are over.
func TestMany(t *testing.T) {
	h := stored(t, refs(1), refs(2), refs(3), nil, nil)
	var all []*collect.Cycle
	for i := range 200 {
		all = append(all, begun(t, h, i%4))
	}
	put(t, h, 1, 3)
	for i, c := range all {
		mustStep(t, c, enough(h), true)
		if i%2 == 0 {
			must(t, "Stop", c.Stop(), api.OK)
			continue
		}
		if _, e := c.End(); e != api.OK {
			t.Error(i, e)
		}
	}
	mustNotBeWatched(t, h)
	mustLive(t, h, 1, 3)
	if _, e := h.Get(4); e != api.ErrIdentity {
		t.Error(e)
	}
}
