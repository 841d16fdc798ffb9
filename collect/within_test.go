package collect_test

import (
	"testing"

	"tenon/api"
	"tenon/collect"
	"tenon/heap"
)

// withWatcher makes a change while somebody watches who does something once, told ahead of a cycle or behind it.
func withWatcher(t *testing.T, h *heap.Heap, behind bool, does func(c *collect.Cycle), steps int, change func()) *collect.Cycle {
	t.Helper()
	var c *collect.Cycle
	times := 0
	tells := func(api.Ref) {
		if times++; times == 1 {
			does(c)
		}
	}
	number := 0
	if !behind {
		number = watch(t, h, tells)
	}
	c = begun(t, h, steps)
	if behind {
		number = watch(t, h, tells)
	}
	change()
	if times == 0 {
		t.Error("nobody was told")
	}
	mustGo(t, "Unwatch", h.Unwatch(number))
	return c
}

// eachWay makes a test with who is told ahead of the cycle, and with who is told behind it.
func eachWay(t *testing.T, test func(behind bool)) {
	t.Helper()
	for _, behind := range []bool{false, true} {
		test(behind)
		if t.Failed() {
			t.Fatal("told behind the cycle:", behind)
		}
	}
}

// P15.2: Begin from within a watcher of the heap is heap.Watch's error; of another heap it goes.
func TestBeginWithin(t *testing.T) {
	h, other := stored(t, refs(1), nil, nil), stored(t, refs(1), nil, nil)
	calls := 0
	number := watch(t, h, func(api.Ref) {
		calls++
		if c, e := collect.Begin(h); c != nil || e != api.ErrPanic {
			t.Error(c, e)
		}
		c := begin(t, other)
		mustStep(t, c, 1, true)
		must(t, "Stop", c.Stop(), api.OK)
	})
	put(t, h, 1, 1)
	add(t, h)
	root(t, h, 2)
	remove(t, h, 3)
	if calls != 4 {
		t.Error(calls)
	}
	mustGo(t, "Unwatch", h.Unwatch(number))
	mustNotBeWatched(t, other)
	if n := watch(t, h, func(api.Ref) {}); n != 2 {
		t.Error("it was watched under", n-1)
	}
}

// P15.2: Step goes on within a watcher, too, as the heap stands behind the change, whether the cycle was told of it already or not.
func TestStepWithin(t *testing.T) {
	eachWay(t, func(behind bool) {
		for name, change := range map[string]func(h *heap.Heap){
			"by a record":     func(h *heap.Heap) { put(t, h, 2, 3) },
			"by a root":       func(h *heap.Heap) { root(t, h, 3) },
			"by another root": func(h *heap.Heap) { mustGo(t, "SetRoot", h.SetRoot(rootName(1), 3)) },
		} {
			h := stored(t, refs(1), refs(2), nil, refs(4), nil, nil)
			c := withWatcher(t, h, behind, func(c *collect.Cycle) {
				mustNotStep(t, c, 0, api.ErrArg)
				mustStep(t, c, 1, false)
				mustStep(t, c, 1, true)
				mustStep(t, c, 1, true)
			}, 2, func() { change(h) })
			mustTake(t, name, h, c.End, 5)
			mustNotBeWatched(t, h)
		}
	})
}

// P15.2: steps enough within the watcher that is told of the change, too, in steps of one.
func TestEnoughWithin(t *testing.T) {
	eachWay(t, func(behind bool) {
		for steps := range 6 {
			h := stored(t, refs(1), refs(2), nil, refs(4), refs(5, 2), refs(3), nil)
			c := withWatcher(t, h, behind, func(c *collect.Cycle) {
				for range enough(h) - 1 {
					c.Step(1)
				}
				mustStep(t, c, 1, true)
			}, steps, func() { put(t, h, 1, 3, 2) })
			mustTake(t, steps, h, c.End, 6)
		}
	})
}

// P15.2: End within a watcher: ErrState, if something is left as the heap stands; else heap.Remove's error, also where there is no garbage, and the cycle goes on.
func TestEndWithin(t *testing.T) {
	eachWay(t, func(behind bool) {
		for _, none := range []bool{false, true} {
			h := stored(t, refs(1), refs(2), nil, nil)
			if none {
				root(t, h, 3)
			}
			c := withWatcher(t, h, behind, func(c *collect.Cycle) {
				mustRefuse(t, "End, all looked through", h, c.End, api.ErrPanic)
				mustRefuse(t, "and again", h, c.End, api.ErrPanic)
			}, 3, func() { put(t, h, 2, 1) })
			if none {
				mustTake(t, "End of none", h, c.End)
			} else {
				mustTake(t, "End", h, c.End, 3)
			}
			mustBeOver(t, h, c)
			mustNotBeWatched(t, h)
		}
		h := stored(t, refs(1), refs(2), nil, nil, nil)
		c := withWatcher(t, h, behind, func(c *collect.Cycle) {
			mustRefuse(t, "End with more to look through", h, c.End, api.ErrState)
		}, 2, func() { put(t, h, 2, 3) })
		mustRefuse(t, "End behind it", h, c.End, api.ErrState)
		mustSpare(t, "End", h, c, 4)
	})
}

// P15.2: Stop within a watcher: the cycle is over; it watches no more once it is asked anything behind that.
func TestStopWithin(t *testing.T) {
	eachWay(t, func(behind bool) {
		for name, ask := range map[string]func(c *collect.Cycle){
			"Step": func(c *collect.Cycle) { mustNotStep(t, c, 1, api.ErrState) },
			"End": func(c *collect.Cycle) {
				if l, e := c.End(); len(l) > 0 || e != api.ErrState {
					t.Error(l, e)
				}
			},
			"Stop": func(c *collect.Cycle) { must(t, "Stop", c.Stop(), api.ErrState) },
		} {
			h := stored(t, refs(1), refs(2), nil, nil)
			c := withWatcher(t, h, behind, func(c *collect.Cycle) {
				must(t, "Stop", c.Stop(), api.OK)
				mustBeOver(t, h, c)
			}, 1, func() { put(t, h, 2, 1) })
			ahead := h.Image()
			ask(c)
			mustNotBeWatched(t, h)
			mustBeLess(t, name, h, ahead, nil)
			mustBeOver(t, h, c)
			mustNotBeWatched(t, h)
		}
	})
}

// P15.2: a cycle that is over by a Stop within a watcher listens no more, whatever comes, and another one goes on.
func TestStoppedWithinGoesOn(t *testing.T) {
	h := stored(t, refs(1), refs(2), nil, nil)
	other := begin(t, h)
	stopped := withWatcher(t, h, true, func(c *collect.Cycle) { must(t, "Stop", c.Stop(), api.OK) }, 2, func() { put(t, h, 2, 1) })
	put(t, h, 2)
	root(t, h, add(t, h, 2))
	mustStep(t, other, enough(h), true)
	mustTake(t, "the other one", h, other.End, 3)
	mustBeOver(t, h, stopped)
	mustNotBeWatched(t, h)
}

// P15.2: several are taken away by one call, and told one by one: what is gone is gone for Step and End from the first on.
func TestWithinRemove(t *testing.T) {
	eachWay(t, func(behind bool) {
		h := stored(t, refs(1), nil, refs(3), refs(2), nil)
		c := withWatcher(t, h, behind, func(c *collect.Cycle) {
			if h.Len() != 2 {
				t.Error(h.IDs())
			}
			mustRefuse(t, "End", h, c.End, api.ErrPanic)
			mustStep(t, c, 1, true)
		}, 1, func() { remove(t, h, 3, 2) })
		mustTake(t, "End", h, c.End, 4)
	})
	h := stored(t, refs(1), nil, refs(3), refs(4), nil)
	root(t, h, 2)
	c := begun(t, h, 2) // two of the roots and what they name: something waits
	unroot(t, h, 2)
	number := watch(t, h, func(api.Ref) { mustStep(t, c, 1, true) })
	remove(t, h, 2, 4, 3)
	mustGo(t, "Unwatch", h.Unwatch(number))
	mustTake(t, "End", h, c.End)
}

// P15.2: who watches while End takes away calls what he likes: nothing more goes, and what is over by then is over.
func TestWithinEnd(t *testing.T) {
	for name, does := range map[string]func(h *heap.Heap, c *collect.Cycle){
		"End":  func(h *heap.Heap, c *collect.Cycle) { mustRefuse(t, "End within End", h, c.End, api.ErrPanic) },
		"Step": func(h *heap.Heap, c *collect.Cycle) { mustStep(t, c, 1, true) },
		"Stop": func(h *heap.Heap, c *collect.Cycle) { c.Stop() },
		"Begin": func(h *heap.Heap, c *collect.Cycle) {
			if c, e := collect.Begin(h); c != nil || e != api.ErrPanic {
				t.Error(c, e)
			}
		},
		"Sweep": func(h *heap.Heap, c *collect.Cycle) { mustRefuse(t, "Sweep within End", h, sweep(h), api.OK) },
		"panic": func(h *heap.Heap, c *collect.Cycle) { panic("within End") },
	} {
		h := stored(t, refs(1), nil, refs(3), refs(2))
		c := begun(t, h, 1)
		number := watch(t, h, func(api.Ref) { does(h, c) })
		mustTake(t, name, h, c.End, 2, 3)
		mustGo(t, "Unwatch", h.Unwatch(number))
		mustBeOver(t, h, c)
		mustNotBeWatched(t, h)
	}
}

// P15.3: a watcher of one heap changes another one, between the steps of the other one's cycle and of its own.
func TestWatchersChange(t *testing.T) {
	h, other := stored(t, refs(1), refs(2), nil, nil, nil), stored(t, refs(1), nil)
	c := begin(t, h)
	moves := []func(){
		func() { put(t, h, 2, 3) },
		func() { put(t, h, 1, 3) },
		func() { put(t, h, 2) },
		func() { root(t, h, add(t, h, 2)) },
	}
	watch(t, other, func(api.Ref) {
		moves[0]()
		moves = moves[1:]
		_, e := c.Step(1)
		mustGo(t, "Step", e)
	})
	for len(moves) > 0 {
		put(t, other, 1)
	}
	mustSpare(t, "by others", h, c, 4)
	mustLive(t, h, 1, 2, 3, 5)
}

// P15.2: a watcher that goes on with the cycle by one record at each change gets to the end, once the changes leave enough time.
func TestStepsByWatcher(t *testing.T) {
	eachWay(t, func(behind bool) {
		h := stored(t, refs(1), refs(2), refs(3), refs(4), nil, nil)
		var c *collect.Cycle
		done := false
		tells := func(api.Ref) {
			if c != nil {
				done, _ = c.Step(1)
			}
		}
		number := 0
		if !behind {
			number = watch(t, h, tells)
		}
		c = begin(t, h)
		if behind {
			number = watch(t, h, tells)
		}
		for i := 0; !done && i < 100; i++ {
			put(t, h, 4, api.Ref(i%4+1))
		}
		mustGo(t, "Unwatch", h.Unwatch(number))
		mustTake(t, "End", h, c.End, 5)
		mustNotBeWatched(t, h)
	})
}
