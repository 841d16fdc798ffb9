package collect_test

import (
	"fmt"
	"slices"
	"testing"

	"tenon/api"
	"tenon/collect"
	"tenon/heap"
	"tenon/sample"
)

// mustSpare goes on until a cycle may end, and ends it: what it takes is garbage, and what must go is among it.
func mustSpare(t *testing.T, name any, h *heap.Heap, c *collect.Cycle, mustGo ...api.Ref) {
	t.Helper()
	mustStep(t, c, enough(h), true)
	ahead, may := h.Image(), garbage(h)
	l, e := c.End()
	if e != api.OK || !slices.IsSorted(l) || len(less(l, may)) > 0 || len(less(mustGo, l)) > 0 {
		t.Errorf("%v: %v, %d, want of %v at least %v", name, some(l), e, some(may), some(mustGo))
	}
	mustBeLess(t, name, h, ahead, l)
	mustBeOver(t, h, c)
	mustNotBeWatched(t, h)
}

// P15.3, P15.6: the last name of a record moves from what is yet to be looked through to what was, however far the cycle is.
func TestNameMoves(t *testing.T) {
	for steps := range 7 {
		for _, x := range []struct{ from, to api.Ref }{{3, 1}, {3, 2}, {1, 3}, {2, 1}} {
			h := stored(t, refs(1), refs(2), refs(3), nil, nil, refs(6), refs(5), refs(4))
			put(t, h, x.from, append(next(x.from, 3), 4)...)
			c := begun(t, h, steps)
			put(t, h, x.to, append(next(x.to, 3), 4)...)
			put(t, h, x.from, next(x.from, 3)...)
			mustSpare(t, fmt.Sprint("4 from ", x.from, " to ", x.to, " behind ", steps), h, c, 5, 6, 7)
			mustLive(t, h, 1, 2, 3, 4)
		}
	}
}

// next is whom a record of a chain names.
func next(id, last api.Ref) []api.Ref {
	if id < last {
		return refs(id + 1)
	}
	return nil
}

// P15.3: the same name goes to and fro ahead of a cycle that goes on by one record at a time.
func TestNameFlees(t *testing.T) {
	for first := range 2 {
		h := stored(t, refs(1, 2), refs(3), nil, nil, nil)
		c := begin(t, h)
		for i := range 9 {
			a, b := api.Ref(1), api.Ref(2)
			if (i+first)%2 == 0 {
				a, b = b, a
			}
			put(t, h, b, 3)
			put(t, h, a)
			_, e := c.Step(1)
			mustGo(t, "Step", e)
		}
		mustSpare(t, first, h, c, 4)
		mustLive(t, h, 1, 2, 3)
	}
}

// P15.3: what nobody named at Begin is reached by what was looked through, by a root, by what is new; all that it names in turn stays, too.
func TestGarbageIsReached(t *testing.T) {
	for steps := range 6 {
		for name, reach := range map[string]func(h *heap.Heap){
			"by a record":     func(h *heap.Heap) { put(t, h, 1, 2, 3) },
			"by the deepest":  func(h *heap.Heap) { put(t, h, 2, 3) },
			"by a root":       func(h *heap.Heap) { root(t, h, 3) },
			"by another root": func(h *heap.Heap) { mustGo(t, "SetRoot", h.SetRoot("other", 3)) },
			"by a new root":   func(h *heap.Heap) { root(t, h, add(t, h, 3)) },
			"by a new record": func(h *heap.Heap) { put(t, h, 2, add(t, h, 3)) },
			"by new ones":     func(h *heap.Heap) { put(t, h, 1, 2, add(t, h, add(t, h, 3))) },
			"from the middle": func(h *heap.Heap) { put(t, h, 2, 4) },
			"within a ring":   func(h *heap.Heap) { put(t, h, 2, 1, 3) },
			"a ring through both": func(h *heap.Heap) {
				put(t, h, 3, 4, 1)
				put(t, h, 2, 3)
			},
		} {
			h := stored(t, refs(1), refs(2), nil, refs(4), refs(5), refs(3), refs(7, 3), nil)
			c := begun(t, h, steps)
			reach(h)
			want := live(h)
			mustSpare(t, name, h, c, 6, 7)
			mustLive(t, h, want...)
			if !slices.Equal(less(refs(1, 2, 3, 4, 5), want), nil) {
				t.Error(name, "the test is wrong")
			}
		}
	}
}

// P15.2: what comes to be live behind the last step is yet to be looked through: End tells so, as Step does.
func TestLeftAgain(t *testing.T) {
	for name, reach := range map[string]func(h *heap.Heap){
		"by a record": func(h *heap.Heap) { put(t, h, 2, 3) },
		"by a root":   func(h *heap.Heap) { root(t, h, 3) },
		"by new ones": func(h *heap.Heap) { put(t, h, 1, 2, add(t, h, 4)) },
		"moved root":  func(h *heap.Heap) { mustGo(t, "SetRoot", h.SetRoot(rootName(1), 4)) },
	} {
		h := stored(t, refs(1), refs(2), nil, refs(4), refs(3), nil)
		c := begin(t, h)
		mustStep(t, c, enough(h), true)
		reach(h)
		mustRefuse(t, name, h, c.End, api.ErrState)
		mustStep(t, c, 1, false) // two records came
		mustRefuse(t, name, h, c.End, api.ErrState)
		mustSpare(t, name, h, c, 5)
	}
}

// P15.4: old garbage goes, whatever else is changed: what names it is put anew ahead of it, others come and go, roots come and go.
func TestOldGarbageGoes(t *testing.T) {
	for steps := range 6 {
		h := stored(t, refs(1), refs(2), refs(3), nil, refs(5, 1), refs(4, 3), refs(4, 6), refs(4), nil)
		c := begun(t, h, steps)
		put(t, h, 7) // it named 4, and is itself put in
		put(t, h, 8, 3, 2)
		put(t, h, 2, add(t, h, 3, 1))
		root(t, h, 2)
		unroot(t, h, 1)
		remove(t, h, add(t, h, 3))
		mustSpare(t, steps, h, c, 4, 5, 6)
	}
}

// P15.4: what others took away meanwhile is not there, all the other old garbage goes; what is gone is told by nobody.
func TestGarbageWentAlready(t *testing.T) {
	for steps := range 4 {
		h := stored(t, refs(1), refs(2), nil, refs(3, 4), nil, refs(6), refs(5))
		c := begun(t, h, steps)
		remove(t, h, 5, 6)
		remove(t, h, 3)
		mustStep(t, c, enough(h), true)
		mustTake(t, steps, h, c.End, 4)
	}
	h := stored(t, refs(1), nil, refs(3), refs(2))
	c := begun(t, h, 1)
	mustTake(t, "Sweep", h, sweep(h), 2, 3)
	mustTake(t, "End behind Sweep", h, c.End)
}

// P15.3, P15.4: what was garbage at Begin and is put in, made a root or reached, and then let go again, may stay or go; nothing else is spared for it, and nothing that is live goes.
func TestLetGoAgain(t *testing.T) {
	for name, reach := range map[string]func(h *heap.Heap, between func()){
		"put in": func(h *heap.Heap, between func()) {
			put(t, h, 3, 4)
			between()
			put(t, h, 3)
		},
		"a root": func(h *heap.Heap, between func()) {
			root(t, h, 3)
			between()
			unroot(t, h, 3)
		},
		"reached": func(h *heap.Heap, between func()) {
			put(t, h, 2, 3)
			between()
			put(t, h, 2)
		},
		"reached by what is gone": func(h *heap.Heap, between func()) {
			id := add(t, h, 3)
			root(t, h, id)
			between()
			unroot(t, h, id)
			remove(t, h, id)
		},
	} {
		for steps := range 4 {
			for more := range 4 {
				h := stored(t, refs(1), refs(2), nil, refs(4), refs(3), refs(6, 3), refs(5))
				c := begun(t, h, steps)
				reach(h, func() {
					for range more {
						c.Step(1)
					}
				})
				mustSpare(t, fmt.Sprint(name, steps, more), h, c, 5, 6)
				mustTake(t, "Sweep behind it", h, sweep(h), garbage(h)...)
				mustLive(t, h, 1, 2)
			}
		}
	}
}

// P15.3: what becomes garbage behind Begin may stay; the next cycle takes it.
func TestLateGarbage(t *testing.T) {
	for steps := range 6 {
		h := stored(t, refs(1, 4), refs(2), refs(3), refs(2), nil, nil)
		c := begun(t, h, steps)
		put(t, h, 1)
		unroot(t, h, 4)
		add(t, h, 2)
		late := garbage(h)
		mustSpare(t, steps, h, c, 5)
		c = begin(t, h)
		mustStep(t, c, enough(h), true)
		mustTake(t, "the next", h, c.End, less(h.IDs(), refs(1))...)
		if !slices.Equal(late, refs(2, 3, 4, 5, 6)) {
			t.Error("the test is wrong", late)
		}
	}
}

// What is refused, or changes nothing, is no change: a cycle does not go back for it.
func TestNoChange(t *testing.T) {
	h := stored(t, refs(1), refs(2), nil, nil)
	c := begin(t, h)
	mustStep(t, c, 2, true)
	h.Put(1, sample.Naming(9))
	h.Put(9, sample.Naming(3))
	h.Add(sample.Naming(9))
	h.Drop(1)
	h.Remove(refs(3, 3))
	h.SetRoot(rootName(1), 1)
	h.SetRoot("no name", 3)
	h.SetRoot("none", 0)
	mustTake(t, "End", h, c.End, 3)
}

// P15.2, P15.3: however a record is changed behind the step that looked at it, in place of the change it is told of, the heap as it stands counts; what comes and goes between two steps is not looked through.
func TestBetweenSteps(t *testing.T) {
	h := stored(t, refs(1), nil, nil, nil)
	c := begin(t, h)
	mustStep(t, c, 1, true)
	for range 5 {
		put(t, h, 1, 2)
		put(t, h, 1, 3)
		put(t, h, 1)
		root(t, h, 2)
		unroot(t, h, 2)
	}
	mustStep(t, c, 1, true)
	put(t, h, 1, 2)
	put(t, h, 1, 3)
	mustRefuse(t, "End", h, c.End, api.ErrState)
	mustStep(t, c, 1, true)
	l, e := c.End()
	if len(less(l, refs(2))) > 0 || e != api.OK {
		t.Error(l, e)
	}
	mustLive(t, h, 1, 3)
}
