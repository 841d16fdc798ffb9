package collect_test

import (
	"slices"
	"testing"

	"tenon/api"
	"tenon/collect"
	"tenon/graph"
	"tenon/heap"
	"tenon/sample"
)

// The chapter's examples.
func TestExamples(t *testing.T) {
	h := stored(t, refs(1), refs(2), nil, refs(4), refs(3))
	mustLive(t, h, 1, 2)
	mustTake(t, "Sweep", h, sweep(h), 3, 4)

	h = stored(t, refs(1), refs(2, 4), nil, nil, nil)
	c := begin(t, h)
	mustStep(t, c, 1, false)
	put(t, h, 1, 2)
	put(t, h, 2, 4)
	mustSpare(t, "End", h, c, 3)
	mustLive(t, h, 1, 2, 4)

	h = stored(t, refs(1), nil)
	c = begin(t, h)
	mustRefuse(t, "with a root", h, c.End, api.ErrState)
	h, _ = heap.New(1)
	c = begin(t, h)
	mustTake(t, "of an empty heap", h, c.End)
}

// The example of the whole: two records that name each other and no root names are both garbage, while either alone is named.
func TestNamedGarbage(t *testing.T) {
	h := stored(t, nil, refs(2), refs(1))
	must(t, "Drop", h.Drop(1), api.ErrNamed)
	must(t, "Drop", h.Drop(2), api.ErrNamed)
	mustLive(t, h)
	mustTake(t, "Sweep", h, sweep(h), 1, 2)
}

// P5: what is live is what the roots reach in the heap's graph, and what is taken away leaves a heap that can be.
func TestAsGraphTells(t *testing.T) {
	for _, x := range shapes() {
		h := stored(t, x.roots, x.names...)
		g, e := graph.Of(h)
		mustGo(t, "Of", e)
		l, e := g.Reach(x.roots)
		if e != api.OK || !slices.Equal(l, collect.Live(h)) {
			t.Error(x.name, l, e, collect.Live(h))
		}
		_, e = collect.Sweep(h)
		mustGo(t, "Sweep", e)
		if !sample.ImageCanBe(h.Image()) {
			t.Error(x.name, "dangles")
		}
	}
}

// What no call of the package made answers whatever it likes, but it answers.
func TestZeroEnds(t *testing.T) {
	var c collect.Cycle
	c.Step(0)
	c.Step(1)
	c.End()
	c.Stop()
	c.Stop()
}
