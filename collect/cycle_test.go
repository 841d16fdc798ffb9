package collect_test

import (
	"math"
	"testing"

	"tenon/api"
	"tenon/collect"
	"tenon/heap"
)

// P15.2, P15.5, P15.6: while nothing changes, a cycle needs as many records as are live, in steps of whatever size, and End takes what Sweep would.
func TestSteps(t *testing.T) {
	for _, x := range shapes() {
		for _, n := range []int{1, 2, 3, 4, 5, 6, 1000, math.MaxInt} {
			h := stored(t, x.roots, x.names...)
			c := begin(t, h)
			for gone := 0; gone < len(x.live); {
				mustRefuse(t, x.name+" early", h, c.End, api.ErrState)
				gone += min(n, len(x.live))
				mustStep(t, c, n, gone >= len(x.live))
			}
			mustStep(t, c, n, true)
			mustLive(t, h, x.live...)
			mustTake(t, x.name, h, c.End, less(h.IDs(), x.live)...)
			mustBeOver(t, h, c)
			mustNotBeWatched(t, h)
		}
	}
}

// P15.2: a number below 1 is ErrArg, whatever the cycle is; it does not go on by that.
func TestStepWrong(t *testing.T) {
	h := stored(t, refs(1), refs(2), nil, refs(3))
	wrong := func(c *collect.Cycle) {
		t.Helper()
		for _, n := range []int{0, -1, -2, math.MinInt} {
			mustNotStep(t, c, n, api.ErrArg)
		}
	}
	c := begin(t, h)
	wrong(c)
	mustStep(t, c, 1, false)
	wrong(c)
	mustStep(t, c, 1, true)
	wrong(c)
	mustTake(t, "End", h, c.End, 3)
	wrong(c)
	c = begin(t, h)
	must(t, "Stop", c.Stop(), api.OK)
	wrong(c)
}

// P15.2: a cycle is over when End answered OK.
func TestOverByEnd(t *testing.T) {
	h := stored(t, refs(1), refs(2), nil, refs(1))
	c := begin(t, h)
	mustRefuse(t, "End ahead", h, c.End, api.ErrState)
	mustStep(t, c, 1, false)
	mustRefuse(t, "End ahead again", h, c.End, api.ErrState)
	mustStep(t, c, 1, true)
	mustTake(t, "End", h, c.End, 3)
	mustBeOver(t, h, c)
	mustNotBeWatched(t, h)
	add(t, h) // what is garbage later is no more its affair
	mustBeOver(t, h, c)
	mustLive(t, h, 1, 2)
}

// P15.2: and when Stop did, however far it was; then nothing is taken away.
func TestOverByStop(t *testing.T) {
	for steps := range 5 {
		h := stored(t, refs(1), refs(2), refs(4), refs(3), nil)
		c := begun(t, h, steps)
		ahead := h.Image()
		must(t, "Stop", c.Stop(), api.OK)
		mustBeLess(t, "Stop", h, ahead, nil)
		mustBeOver(t, h, c)
		mustNotBeWatched(t, h)
	}
}

// P15.2: End right behind Begin: with a root there is something to be looked through, without one there is not.
func TestEndAtOnce(t *testing.T) {
	for _, x := range shapes() {
		h := stored(t, x.roots, x.names...)
		c := begin(t, h)
		if len(x.roots) > 0 {
			mustRefuse(t, x.name, h, c.End, api.ErrState)
			continue
		}
		mustTake(t, x.name, h, c.End, h.IDs()...)
		mustBeOver(t, h, c)
	}
	h, _ := heap.New(1)
	c := begin(t, h)
	mustTake(t, "a new heap", h, c.End)
	mustBeOver(t, h, c)
}

// P15.2: a step of what has nothing to be looked through answers true, as often as one likes.
func TestStepOfNothing(t *testing.T) {
	h := stored(t, nil)
	c := begin(t, h)
	for range 3 {
		mustStep(t, c, 1, true)
	}
	mustTake(t, "End of an empty heap", h, c.End)
	h = stored(t, nil, refs(2), refs(1))
	c = begin(t, h)
	mustStep(t, c, 1, true)
	mustTake(t, "End without roots", h, c.End, 1, 2)
}

// P15.2: a heap whose records went since Begin is an empty one, and one whose roots went has nothing that is live, whatever was waiting to be looked through.
func TestEmptied(t *testing.T) {
	for steps := range 5 {
		for _, gone := range [][]api.Ref{refs(1, 2, 3, 4), nil} {
			h := stored(t, refs(1), refs(2, 3), refs(4), refs(1), nil)
			c := begun(t, h, steps)
			unroot(t, h, 1)
			remove(t, h, gone...)
			mustEndAsIs(t, h, c)
		}
	}
}

// mustEndAsIs is that nothing is left: End says so itself, without a step ahead of it, and takes away what is garbage.
func mustEndAsIs(t *testing.T, h *heap.Heap, c *collect.Cycle) {
	t.Helper()
	mustTake(t, "End", h, c.End, h.IDs()...)
	mustBeOver(t, h, c)
}

// P15.2: what waits to be looked through and goes is left no more.
func TestWaitingGoes(t *testing.T) {
	h := stored(t, refs(1, 2, 3, 4), nil, nil, nil, nil)
	c := begun(t, h, 1) // all four are known now
	for _, id := range refs(2, 3) {
		unroot(t, h, id)
		remove(t, h, id)
	}
	mustRefuse(t, "End", h, c.End, api.ErrState)
	mustStep(t, c, 2, true)
	root(t, h, add(t, h, 1))
	mustRefuse(t, "End", h, c.End, api.ErrState)
	unroot(t, h, 5)
	remove(t, h, 5)
	mustTake(t, "End", h, c.End)
}

// Rule 'First error': what is refused changes nothing, so that a cycle goes on as one of which nothing was asked meanwhile.
func TestRefusedChangesNothing(t *testing.T) {
	changes := []func(h *heap.Heap){
		func(h *heap.Heap) { mustGo(t, "SetRoot", h.SetRoot(rootName(1), 2)) },
		func(h *heap.Heap) { put(t, h, 2, 3) },
		func(h *heap.Heap) { put(t, h, 2, 4) },
		func(h *heap.Heap) { put(t, h, 2) },
		func(h *heap.Heap) { root(t, h, 1) },
	}
	for steps := range 1 << len(changes) {
		asked := stored(t, refs(1), nil, nil, nil, refs(5), refs(3), nil)
		plain := asked.Clone()
		a, b := begin(t, asked), begin(t, plain)
		left := true
		number := watch(t, asked, func(api.Ref) { a.End() }) // it is refused there, whatever is left
		for i, change := range changes {
			if left {
				mustRefuse(t, "End", asked, a.End, api.ErrState)
			}
			mustNotStep(t, a, 0, api.ErrArg)
			change(asked)
			change(plain)
			if left = steps>>i&1 == 1; left {
				done, _ := b.Step(1)
				mustStep(t, a, 1, done)
				left = !done
			}
		}
		mustGo(t, "Unwatch", asked.Unwatch(number))
		mustStep(t, b, enough(plain), true)
		mustStep(t, a, enough(asked), true)
		l, _ := b.End()
		mustTake(t, steps, asked, a.End, l...)
	}
}

// P15.2, steps enough: whatever was done ahead, twice the number of records and one are enough since the last change, in one step or in several.
func TestEnough(t *testing.T) {
	for steps := range 8 {
		for _, sizes := range [][]int{{1}, {2}, {3, 1}, {1000}, {math.MaxInt}, {math.MaxInt, 1}} {
			h := stored(t, refs(1, 4), refs(2), refs(3), refs(1), refs(5), nil, refs(7), refs(6))
			c := begun(t, h, steps)
			put(t, h, 1, 3, 5)
			put(t, h, 5, 2, 6)
			unroot(t, h, 4)
			remove(t, h, 4)
			root(t, h, add(t, h, 5))
			for done, i := 0, 0; done < enough(h); i++ {
				n := sizes[i%len(sizes)]
				_, e := c.Step(n)
				mustGo(t, "Step", e)
				done += min(n, enough(h))
			}
			mustStep(t, c, 1, true)
			mustTake(t, steps, h, c.End)
			mustLive(t, h, 1, 2, 3, 5, 6, 7, 8)
		}
	}
}

// P15.2: the step that makes them enough is the one that answers true.
func TestEnoughByTheLast(t *testing.T) {
	for steps := range 6 {
		h := stored(t, refs(1), refs(2), refs(3), refs(4), nil)
		c := begun(t, h, steps)
		put(t, h, 4, 1)
		for range 2 * h.Len() {
			c.Step(1)
		}
		mustStep(t, c, 1, true)
	}
}

// P15.2: what Step answered stands while nothing changes, and End goes by the same.
func TestStepAndEndAgree(t *testing.T) {
	h := stored(t, refs(1), refs(2), refs(3), nil, refs(4))
	c := begin(t, h)
	for done := false; !done; {
		mustRefuse(t, "End", h, c.End, api.ErrState)
		mustRefuse(t, "End", h, c.End, api.ErrState)
		done, _ = c.Step(1)
	}
	for range 3 {
		mustStep(t, c, 1, true)
		collect.Live(h)
		h.Put(9, nil) // refused: no change
		h.Drop(2)
		h.SetRoot(rootName(1), 1)
	}
	mustTake(t, "End", h, c.End, 4)
}

// Several cycles, one behind the other: each takes what was garbage when it began.
func TestCyclesInTurn(t *testing.T) {
	h := stored(t, refs(1), refs(2), refs(3), refs(4), nil)
	for n := api.Ref(4); n > 1; n-- {
		put(t, h, n-1)
		c := begin(t, h)
		mustStep(t, c, enough(h), true)
		mustTake(t, n, h, c.End, n)
	}
	mustNotBeWatched(t, h)
	mustLive(t, h, 1)
}
