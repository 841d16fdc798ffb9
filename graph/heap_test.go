package graph_test

import (
	"slices"
	"testing"

	"tenon/api"
	"tenon/graph"
	"tenon/heap"
	"tenon/sample"
)

// stored is a heap of records by their identities, from 1 on, that name others.
func stored(t *testing.T, names ...[]api.Ref) *heap.Heap {
	t.Helper()
	x := api.Image{Room: api.MaxHeap, Next: api.Ref(len(names) + 1)}
	for i, l := range names {
		x.Records = append(x.Records, api.Stored{ID: api.Ref(i + 1), Record: sample.Naming(l...)})
	}
	return load(t, x)
}

func load(t *testing.T, x api.Image) *heap.Heap {
	t.Helper()
	h, e := heap.Load(x)
	if e != api.OK {
		t.Fatal("Load", e)
	}
	return h
}

// of is a heap's graph, which must be made.
func of(t *testing.T, h *heap.Heap) *graph.Graph {
	t.Helper()
	g, e := graph.Of(h)
	if g == nil || e != api.OK {
		t.Fatal("Of", e)
	}
	return g
}

// P14.1: of no heap, of an empty one, of records that name themselves, one another, nobody and 0.
func TestOf(t *testing.T) {
	if g, e := graph.Of(nil); g != nil || e != api.ErrNil {
		t.Error(g, e)
	}
	if a := told(of(t, stored(t))); !a.is(all{}) {
		t.Error(a)
	}
	g := of(t, stored(t, refs(1), refs(3, 3, 3), refs(2, 0, 1, 2), nil, refs(0)))
	mustRefs(t, "Nodes", g.Nodes(), api.OK, api.OK, 1, 2, 3, 4, 5)
	if want := pairs(1, 1, 2, 3, 3, 1, 3, 2); !slices.Equal(g.Edges(), want) {
		t.Error(g.Edges(), want)
	}
	for _, x := range sample.Images() {
		h := load(t, x.Image)
		g := of(t, h)
		var edges []api.Edge
		for _, id := range h.IDs() {
			l, _ := h.Names(id)
			for _, to := range l {
				edges = append(edges, api.Edge{From: id, To: to})
			}
		}
		if !slices.Equal(g.Nodes(), h.IDs()) || !slices.Equal(g.Edges(), edges) {
			t.Error(x.Name)
		}
		if !told(g).is(told(made(t, h.IDs(), edges))) {
			t.Error(x.Name, "made otherwise")
		}
	}
}

// P14.1: a reference is a name wherever it lies in a record; a root makes no edge.
func TestOfDeep(t *testing.T) {
	h := stored(t, nil, nil, nil)
	inner := sample.Record("in", 2, sample.Field("x", api.Ref(2)))
	r := sample.Record("out", 1, sample.Field("a", api.List{api.List{api.Ref(3)}, api.Dict{sample.Field("y", inner)}}), sample.Field("b", "1"), sample.Field("c", int64(1)))
	if e := h.Put(1, r); e != api.OK {
		t.Fatal(e)
	}
	if e := h.SetRoot("a", 2); e != api.OK {
		t.Fatal(e)
	}
	if g := of(t, h); !slices.Equal(g.Edges(), pairs(1, 2, 1, 3)) {
		t.Error(g.Edges())
	}
}

// P14.1: as many edges as there may be, and one more; what is named several times is one.
func TestOfMost(t *testing.T) {
	names := make([][]api.Ref, api.MaxHeap)
	everyone := upTo(api.MaxHeap)
	for i := range api.MaxNodes / api.MaxHeap {
		names[i] = everyone
	}
	h := stored(t, names...)
	if g := of(t, h); len(g.Edges()) != api.MaxNodes || len(g.Nodes()) != api.MaxHeap {
		t.Error(len(g.Edges()))
	}
	last := api.Ref(api.MaxHeap)
	if e := h.Put(last, sample.Naming(7)); e != api.OK {
		t.Fatal(e)
	}
	if g, e := graph.Of(h); g != nil || e != api.ErrLong {
		t.Error(g, e)
	}
	twice := append(slices.Clone(everyone[:api.MaxHeap-2]), 1)
	if e := h.Put(1, sample.Naming(twice...)); e != api.OK {
		t.Fatal(e)
	}
	if g := of(t, h); len(g.Edges()) != api.MaxNodes-1 {
		t.Error(len(g.Edges()))
	}
	for i := range 8 {
		if e := h.Put(api.Ref(100+i), sample.Naming(everyone...)); e != api.OK {
			t.Fatal(e)
		}
	}
	if g, e := graph.Of(h); g != nil || e != api.ErrLong {
		t.Error(g, e)
	}
}

// A graph is of the heap as it was, also for a watcher that is just told; the heap is not changed by it.
func TestOfThen(t *testing.T) {
	h := stored(t, refs(2), nil)
	g := of(t, h)
	var meanwhile []api.Edge
	if _, e := h.Watch(func(api.Ref) { meanwhile = of(t, h).Edges() }); e != api.OK {
		t.Fatal(e)
	}
	ahead := h.Image()
	of(t, h)
	if !sample.SameImages(h.Image(), ahead) || meanwhile != nil {
		t.Error("the heap has changed")
	}
	if e := h.Put(2, sample.Naming(1)); e != api.OK {
		t.Fatal(e)
	}
	if !slices.Equal(meanwhile, pairs(1, 2, 2, 1)) || !slices.Equal(g.Edges(), pairs(1, 2)) {
		t.Error(meanwhile, g.Edges())
	}
}

// P14.11, P5: what Keeps tells is what would be garbage if the node went: all that none of from reaches, when it is taken out of the heap, and out of the records that name it.
func TestKeptInHeap(t *testing.T) {
	h := stored(t, refs(2, 5), refs(3), refs(4, 2), nil, refs(4), refs(1))
	g := of(t, h)
	for _, node := range h.IDs() {
		for _, from := range [][]api.Ref{refs(1), refs(6), refs(2, 5), refs(1, 3), h.IDs()} {
			ahead, e := g.Reach(from)
			if e != api.OK {
				t.Fatal(e)
			}
			left := slices.DeleteFunc(slices.Clone(from), func(id api.Ref) bool { return id == node })
			behind, e := of(t, without(t, h, node)).Reach(left)
			if e != api.OK {
				t.Fatal(e)
			}
			gone := slices.DeleteFunc(ahead, func(id api.Ref) bool { return slices.Contains(behind, id) })
			mustKeep(t, g, from, node, gone...)
		}
	}
}

// without is a heap in which a record is gone and nobody names it.
func without(t *testing.T, h *heap.Heap, node api.Ref) *heap.Heap {
	t.Helper()
	c := h.Clone()
	for _, id := range c.IDs() {
		l, _ := c.Names(id)
		if e := c.Put(id, sample.Naming(slices.DeleteFunc(l, func(n api.Ref) bool { return n == node })...)); e != api.OK {
			t.Fatal(e)
		}
	}
	if e := c.Drop(node); e != api.OK {
		t.Fatal(e)
	}
	return c
}
