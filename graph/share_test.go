package graph_test

import (
	"slices"
	"testing"

	"tenon/api"
	"tenon/graph"
)

// spoil writes over a list, spare room too.
func spoil[T any](l []T, with T) {
	l = l[:cap(l)]
	for i := range l {
		l[i] = with
	}
}

func spoilRefs(l []api.Ref) { spoil(l, 987654321) }

// P14.1, rule 7: what Make is handed is neither changed nor kept, spare room included.
func TestHandedIn(t *testing.T) {
	nodes := append(make([]api.Ref, 0, 9), 4, 2, 3, 1, 77)[:4]
	edges := append(make([]api.Edge, 0, 9), pairs(3, 2, 1, 4, 2, 3, 1, 4, 1, 2, 88, 88)...)[:5]
	g := made(t, nodes, edges)
	want := told(g)
	if !slices.Equal(nodes[:5], refs(4, 2, 3, 1, 77)) || !slices.Equal(edges[:6], pairs(3, 2, 1, 4, 2, 3, 1, 4, 1, 2, 88, 88)) {
		t.Error(nodes[:5], edges[:6])
	}
	spoilRefs(nodes)
	spoil(edges, api.Edge{From: 4, To: 1})
	if !told(g).is(want) {
		t.Error("the graph has changed")
	}
}

// Rule 7: nor is from, by any call.
func TestFromStays(t *testing.T) {
	g := made(t, upTo(4), pairs(1, 2, 2, 3, 3, 2, 1, 4))
	from := append(make([]api.Ref, 0, 9), 3, 1, 3, 77, 78)[:3]
	yes := func(api.Ref) bool { return true }
	g.Reach(from)
	g.Keeps(from, 2)
	g.Keeper(from, 2)
	g.Walk(from, yes, yes)
	if !slices.Equal(from[:5], refs(3, 1, 3, 77, 78)) {
		t.Error(from[:5])
	}
}

// Rule 7: whoever writes into what is answered changes nothing else: no graph, no other answer, no other list of the answer.
func TestAnswersApart(t *testing.T) {
	make2 := func() *graph.Graph {
		return made(t, upTo(6), pairs(1, 2, 2, 3, 3, 2, 1, 4, 4, 5, 5, 4))
	}
	g := make2()
	back := g.Turned()
	want, wantBack := told(make2()), told(make2().Turned())
	for range 2 {
		spoilRefs(g.Nodes())
		spoil(g.Edges(), api.Edge{From: 6, To: 6})
		spoilRefs(back.Nodes())
		spoil(back.Edges(), api.Edge{From: 6, To: 6})
		l, _ := g.Reach(refs(1))
		spoilRefs(l)
		l, _ = g.Path(1, 3)
		spoilRefs(l)
		l, _ = g.Keeps(refs(1), 2)
		spoilRefs(l)
		l, _ = g.Ring()
		spoilRefs(l)
		parts := g.Parts()
		for i := range parts {
			before := slices.Concat(parts[i+1:]...)
			spoilRefs(parts[i])
			if !slices.Equal(before, slices.Concat(parts[i+1:]...)) {
				t.Error("parts share memory")
			}
		}
		spoil(parts, nil)
		l, _ = made(t, upTo(3), pairs(3, 1)).Order()
		spoilRefs(l)
		if !told(g).is(want) || !told(back).is(wantBack) {
			t.Error("a graph has changed")
		}
		mustPath(t, g, 1, 3, 1, 2, 3)
		mustKeep(t, g, refs(1), 2, 2, 3)
		mustReach(t, g, refs(4), 4, 5)
	}
	lone := made(t, upTo(3), pairs(3, 1))
	l, _ := lone.Order()
	spoilRefs(l)
	mustOrder(t, lone, 2, 3, 1)
}
