package graph_test

import (
	"slices"
	"testing"

	"tenon/api"
	"tenon/graph"
)

const most = api.MaxHeap

// walked is who is entered, and who is left, in the order in which they are.
func walked(t *testing.T, g *graph.Graph, from ...api.Ref) (entered, left []api.Ref) {
	t.Helper()
	e := g.Walk(from, func(n api.Ref) bool { entered = append(entered, n); return true }, func(n api.Ref) bool { left = append(left, n); return true })
	if e != api.OK {
		t.Error(e)
	}
	return entered, left
}

// backward is a list the other way round.
func backward(l []api.Ref) []api.Ref {
	l = slices.Clone(l)
	slices.Reverse(l)
	return l
}

// A chain of as many nodes as there may be: depth does no harm.
func TestLongChain(t *testing.T) {
	g := made(t, upTo(most), chain(most))
	mustReach(t, g, refs(1), upTo(most)...)
	mustPath(t, g, 1, most, upTo(most)...)
	mustOrder(t, g, upTo(most)...)
	mustOrder(t, g.Turned(), backward(upTo(most))...)
	mustKeep(t, g, refs(1), 1, upTo(most)...)
	mustKeep(t, g, refs(1), most, most)
	mustBeKept(t, g, refs(1), most, most-1)
	mustBeKept(t, g, refs(1, 2000), 2001, 2000)
	if p := g.Parts(); len(p) != most || len(p[0]) != 1 {
		t.Error(len(p))
	}
	entered, left := walked(t, g, 1)
	mustRefs(t, "entered", entered, api.OK, api.OK, upTo(most)...)
	mustRefs(t, "left", left, api.OK, api.OK, backward(upTo(most))...)
	n := 0
	thrown := func(api.Ref) bool { n++; panic("deep down") }
	if e := g.Walk(refs(1), func(api.Ref) bool { return true }, thrown); e != api.ErrPanic || n != 1 {
		t.Error(e, n)
	}
}

// A ring of as many nodes as there may be.
func TestGreatRing(t *testing.T) {
	g := made(t, upTo(most), append(chain(most), api.Edge{From: most, To: 1}))
	mustRing(t, g, upTo(most)...)
	mustParts(t, g, upTo(most))
	mustParts(t, g.Turned(), upTo(most))
	mustPath(t, g, 2, 1, append(upTo(most)[1:], 1)...)
	mustBeKept(t, g, refs(7), 6, 5)
	mustBeKept(t, g, refs(7), 1, most)
	mustBeKept(t, g, refs(7), 7, 0)
	mustKeep(t, g, refs(2), 2, upTo(most)...)
	mustKeep(t, g, refs(2), 1, 1)
	entered, left := walked(t, g, 1, 2, 3)
	mustRefs(t, "entered", entered, api.OK, api.OK, upTo(most)...)
	mustRefs(t, "left", left, api.OK, api.OK, backward(upTo(most))...)
	want := append(refs(1), backward(upTo(most))[:most-1]...)
	mustRing(t, g.Turned(), want...)
}

// A ladder: from each node edges to the next four, so that whoever lies between is passed by.
func TestLadder(t *testing.T) {
	var edges []api.Edge
	for i := api.Ref(1); i < most; i++ {
		for _, far := range []api.Ref{1, 2, 3, 4} {
			if i+far <= most {
				edges = append(edges, api.Edge{From: i, To: i + far})
			}
		}
	}
	g := made(t, upTo(most), edges)
	mustOrder(t, g, upTo(most)...)
	mustBeKept(t, g, refs(1), most, 1)
	mustBeKept(t, g, refs(1), 2, 1)
	mustKeep(t, g, refs(1), 2000, 2000)
	if l, e := g.Path(1, most); e != api.OK || len(l) != 1+(most-1+3)/4 || l[1] != 4 {
		t.Error(len(l), e, some(l))
	}
	if p := g.Parts(); len(p) != most {
		t.Error(len(p))
	}
	back := append(edges, api.Edge{From: most, To: 1})
	g = made(t, upTo(most), back)
	mustParts(t, g, upTo(most))
	if l, is := g.Ring(); !is || len(l) != 1+(most-1+3)/4 || l[0] != 1 {
		t.Error(len(l), is)
	}
}

// As many edges as there may be between half of the nodes and the other half: no ring, and then one.
func TestManyEdges(t *testing.T) {
	var edges []api.Edge
	for i := range 128 {
		for j := range 128 {
			edges = append(edges, api.Edge{From: api.Ref(i + 1), To: api.Ref(j + 129)})
		}
	}
	g := made(t, upTo(256), edges)
	mustOrder(t, g, upTo(256)...)
	mustPath(t, g, 128, 256, 128, 256)
	mustBeKept(t, g, refs(1), 256, 1)
	mustBeKept(t, g, refs(1, 2), 256, 0)
	edges[0] = api.Edge{From: 256, To: 128}
	g = made(t, upTo(256), edges)
	mustRing(t, g, 128, 256)
	mustPath(t, g, 1, 128, 1, 256, 128)
	mustPath(t, g, 1, 129, 1, 256, 128, 129)
}
