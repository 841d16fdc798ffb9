package graph_test

import (
	"math"
	"slices"
	"testing"

	"tenon/api"
	"tenon/graph"
)

// pairs is edges: each number leads to the one behind it, pair by pair.
func pairs(ends ...api.Ref) []api.Edge {
	var l []api.Edge
	for i := 0; i < len(ends); i += 2 {
		l = append(l, api.Edge{From: ends[i], To: ends[i+1]})
	}
	return l
}

// upTo is 1 to n.
func upTo(n int) []api.Ref {
	var l []api.Ref
	for i := range n {
		l = append(l, api.Ref(i+1))
	}
	return l
}

// chain is edges from each of 1 to n to the next one.
func chain(n int) []api.Edge {
	var l []api.Edge
	for i := 1; i < n; i++ {
		l = append(l, api.Edge{From: api.Ref(i), To: api.Ref(i + 1)})
	}
	return l
}

func refs(ids ...api.Ref) []api.Ref { return ids }

// made is the graph of nodes and edges, which must be made.
func made(t *testing.T, nodes []api.Ref, edges []api.Edge) *graph.Graph {
	t.Helper()
	g, e := graph.Make(nodes, edges)
	if g == nil || e != api.OK {
		t.Fatal("Make", e)
	}
	return g
}

func mustNotMake(t *testing.T, name string, nodes []api.Ref, edges []api.Edge, want api.Errno) {
	t.Helper()
	if g, e := graph.Make(nodes, edges); g != nil || e != want {
		t.Errorf("%s: %v, %d, want %d", name, g, e, want)
	}
}

// mustRefs holds nodes and an error against what is wanted.
func mustRefs(t *testing.T, name any, got []api.Ref, e, wantE api.Errno, want ...api.Ref) {
	t.Helper()
	if !slices.Equal(got, want) || e != wantE {
		t.Errorf("%v: %s, %d, want %s, %d", name, some(got), e, some(want), wantE)
	}
}

// some is a list as it is read, if it is not too long.
func some(l []api.Ref) any {
	if len(l) > 30 {
		return []any{len(l), "of them", l[:20]}
	}
	return l
}

func mustReach(t *testing.T, g *graph.Graph, from []api.Ref, want ...api.Ref) {
	t.Helper()
	l, e := g.Reach(from)
	mustRefs(t, from, l, e, api.OK, want...)
}

func mustPath(t *testing.T, g *graph.Graph, from, to api.Ref, want ...api.Ref) {
	t.Helper()
	l, e := g.Path(from, to)
	mustRefs(t, refs(from, to), l, e, api.OK, want...)
}

func mustKeep(t *testing.T, g *graph.Graph, from []api.Ref, node api.Ref, want ...api.Ref) {
	t.Helper()
	l, e := g.Keeps(from, node)
	mustRefs(t, []any{from, node}, l, e, api.OK, want...)
}

// mustBeKept holds Keeper against what is wanted: 0 is none.
func mustBeKept(t *testing.T, g *graph.Graph, from []api.Ref, node, want api.Ref) {
	t.Helper()
	if k, is, e := g.Keeper(from, node); k != want || is != (want != 0) || e != api.OK {
		t.Errorf("Keeper(%d, %d): %d, %t, %d, want %d", from, node, k, is, e, want)
	}
}

func mustOrder(t *testing.T, g *graph.Graph, want ...api.Ref) {
	t.Helper()
	l, e := g.Order()
	mustRefs(t, "Order", l, e, api.OK, want...)
	if r, is := g.Ring(); len(r) > 0 || is {
		t.Error("a ring", r, is)
	}
}

func mustRing(t *testing.T, g *graph.Graph, want ...api.Ref) {
	t.Helper()
	r, is := g.Ring()
	if !slices.Equal(r, want) || !is {
		t.Error("Ring:", some(r), is, "want", some(want))
	}
	l, e := g.Order()
	mustRefs(t, "Order", l, e, api.ErrRing)
}

func mustParts(t *testing.T, g *graph.Graph, want ...[]api.Ref) {
	t.Helper()
	if got := g.Parts(); !slices.EqualFunc(got, want, slices.Equal) {
		t.Error("Parts:", got, "want", want)
	}
}

// all is all that a graph tells without being asked for something.
type all struct {
	nodes, order, ring []api.Ref
	edges              []api.Edge
	parts              [][]api.Ref
}

func told(g *graph.Graph) all {
	a := all{nodes: g.Nodes(), edges: g.Edges(), parts: g.Parts()}
	a.order, _ = g.Order()
	a.ring, _ = g.Ring()
	return a
}

func (a all) is(b all) bool {
	return slices.Equal(a.nodes, b.nodes) && slices.Equal(a.edges, b.edges) && slices.Equal(a.order, b.order) && slices.Equal(a.ring, b.ring) && slices.EqualFunc(a.parts, b.parts, slices.Equal)
}

// P14.1: no nodes at all; one, with an edge to itself and without; great numbers.
func TestMake(t *testing.T) {
	for _, none := range []*graph.Graph{made(t, nil, nil), made(t, []api.Ref{}, []api.Edge{})} {
		if a := told(none); !a.is(all{}) {
			t.Error(a)
		}
		mustReach(t, none, nil)
		mustOrder(t, none)
	}
	lone := made(t, refs(7), nil)
	mustOrder(t, lone, 7)
	mustParts(t, lone, refs(7))
	mustReach(t, lone, refs(7), 7)
	self := made(t, refs(math.MaxUint64), pairs(math.MaxUint64, math.MaxUint64))
	mustRing(t, self, math.MaxUint64)
	mustParts(t, self, refs(math.MaxUint64))
	mustPath(t, self, math.MaxUint64, math.MaxUint64, math.MaxUint64)
}

// P14.1: what can't be made, and which error is told of several.
func TestMakeWrong(t *testing.T) {
	most, many := upTo(api.MaxHeap), make([]api.Edge, api.MaxNodes)
	for i := range many {
		many[i] = api.Edge{From: 1, To: 1}
	}
	g := made(t, most, many)
	if len(g.Nodes()) != api.MaxHeap || !slices.Equal(g.Edges(), pairs(1, 1)) {
		t.Error(len(g.Nodes()), len(g.Edges()))
	}
	more, edges := append(slices.Clone(most), 99999), append(slices.Clone(many), api.Edge{From: 1, To: 1})
	for _, w := range []struct {
		name  string
		nodes []api.Ref
		edges []api.Edge
		want  api.Errno
	}{
		{"a node too many", more, nil, api.ErrLong},
		{"an edge too many", most, edges, api.ErrLong},
		{"an edge too many, without nodes", nil, edges, api.ErrLong},
		{"too many of both", more, edges, api.ErrLong},
		{"too many nodes, all 0", make([]api.Ref, api.MaxHeap+1), pairs(9, 9), api.ErrLong},
		{"too many edges, and a node 0", refs(0), edges, api.ErrLong},
		{"too many edges, and a node twice", refs(1, 1), edges, api.ErrLong},
		{"too many edges, none of which can be", refs(1), make([]api.Edge, api.MaxNodes+1), api.ErrLong},
		{"a node 0", refs(0), nil, api.ErrArg},
		{"a node 0 at the end", refs(1, 2, 0), nil, api.ErrArg},
		{"a node twice", refs(3, 3), nil, api.ErrArg},
		{"a node twice, apart", refs(3, 9, 1, 3), nil, api.ErrArg},
		{"as many nodes as may be, all 0", make([]api.Ref, api.MaxHeap), nil, api.ErrArg},
		{"a node 0, and an edge to it", refs(0, 1), pairs(1, 0), api.ErrArg},
		{"a node twice, and an edge to none", refs(1, 1), pairs(1, 2), api.ErrArg},
		{"an edge to none", refs(1), pairs(1, 2), api.ErrNode},
		{"an edge from none", refs(1), pairs(2, 1), api.ErrNode},
		{"an edge between none", refs(1), pairs(2, 2), api.ErrNode},
		{"an edge to 0", refs(1), pairs(1, 0), api.ErrNode},
		{"an edge from 0", refs(1), pairs(0, 1), api.ErrNode},
		{"an edge without nodes", nil, pairs(1, 1), api.ErrNode},
		{"the last edge to none", refs(1, 2), pairs(1, 2, 2, 1, 1, 1, 1, 3), api.ErrNode},
	} {
		mustNotMake(t, w.name, w.nodes, w.edges, w.want)
	}
}

// P14.1: so many nodes and edges as there may be.
func TestMost(t *testing.T) {
	var edges []api.Edge
	for i := range api.MaxNodes { // each of 4 to each, from the greatest on
		edges = append(edges, api.Edge{From: api.Ref(4 - i/api.MaxHeap), To: api.Ref(api.MaxHeap - i%api.MaxHeap)})
	}
	nodes := upTo(api.MaxHeap)
	slices.Reverse(nodes)
	g := made(t, nodes, edges)
	slices.Reverse(edges)
	if !slices.Equal(g.Edges(), edges) || !slices.Equal(g.Nodes(), upTo(api.MaxHeap)) {
		t.Error("edges that differ")
	}
	back := g.Turned()
	if l := back.Edges(); len(l) != api.MaxNodes || l[0] != (api.Edge{From: 1, To: 1}) || l[api.MaxNodes-1] != (api.Edge{From: api.MaxHeap, To: 4}) {
		t.Error(len(l))
	}
	mustRing(t, g, 1)
	if p := g.Parts(); len(p) != api.MaxHeap-3 || !slices.Equal(p[0], refs(1, 2, 3, 4)) {
		t.Error(len(p))
	}
}

// P14.2: rising, each edge once, however they came; turned, and turned again.
func TestNodesAndEdges(t *testing.T) {
	g := made(t, refs(10, 2, 30, 1), pairs(30, 1, 10, 30, 30, 1, 2, 2, 10, 2, 10, 30, 30, 1, 1, 30))
	mustRefs(t, "Nodes", g.Nodes(), api.OK, api.OK, 1, 2, 10, 30)
	if want := pairs(1, 30, 2, 2, 10, 2, 10, 30, 30, 1); !slices.Equal(g.Edges(), want) {
		t.Error(g.Edges(), want)
	}
	back := g.Turned()
	mustRefs(t, "Nodes", back.Nodes(), api.OK, api.OK, 1, 2, 10, 30)
	if want := pairs(1, 30, 2, 2, 2, 10, 30, 1, 30, 10); !slices.Equal(back.Edges(), want) {
		t.Error(back.Edges(), want)
	}
	if again := back.Turned(); !told(again).is(told(g)) {
		t.Error(again.Edges())
	}
	mustReach(t, back, refs(2), 2, 10)
	mustReach(t, g, refs(2), 2)
	if a := told(made(t, nil, nil).Turned()); !a.is(all{}) {
		t.Error(a)
	}
}
