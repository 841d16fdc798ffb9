package graph_test

import (
	"math/rand"
	"slices"
	"testing"

	"tenon/api"
	"tenon/graph"
)

// The chapter's examples.
func TestExamples(t *testing.T) {
	g := made(t, refs(1, 2, 3, 4), pairs(1, 2, 2, 3, 3, 2, 1, 4))
	mustReach(t, g, refs(2), 2, 3)
	mustParts(t, g, refs(1), refs(2, 3), refs(4))
	mustRing(t, g, 2, 3)
	mustKeep(t, g, refs(1), 2, 2, 3)
	mustBeKept(t, g, refs(1), 3, 2)
	mustBeKept(t, g, refs(1), 1, 0)

	g = made(t, refs(1, 2, 3, 4), pairs(1, 2, 1, 3, 2, 4, 3, 4))
	mustPath(t, g, 1, 4, 1, 2, 4)
	mustBeKept(t, g, refs(1), 4, 1)
	mustKeep(t, g, refs(1), 2, 2)
	mustOrder(t, g, 1, 2, 3, 4)
	l, e := g.Path(4, 1)
	mustRefs(t, "Path(4, 1)", l, e, api.ErrWay)
}

// someGraphs is graphs by chance, of few nodes and of more.
func someGraphs(t *testing.T, do func(r *rand.Rand, p plain, g *graph.Graph)) {
	t.Helper()
	r := rand.New(rand.NewSource(1414))
	for i := range 80 {
		p := anyGraph(r, 3+i/2)
		do(r, p, made(t, p.nodes, p.edges))
		if t.Failed() {
			t.Fatal(p)
		}
	}
}

// P14.9: a path goes by edges, there is one just if Reach tells to, and from its second node on it is the path of that.
func TestWayIsWay(t *testing.T) {
	someGraphs(t, func(r *rand.Rand, p plain, g *graph.Graph) {
		for _, from := range p.nodes {
			reached, _ := g.Reach(refs(from))
			for _, to := range p.nodes {
				way, e := g.Path(from, to)
				if (e == api.OK) != slices.Contains(reached, to) {
					t.Error(from, to, way, e)
				}
				if e != api.OK {
					continue
				}
				if way[0] != from || way[len(way)-1] != to {
					t.Error(from, to, way)
				}
				for i := 1; i < len(way); i++ {
					if !p.edge(way[i-1], way[i]) {
						t.Error("no edge", way)
					}
				}
				if len(way) > 1 {
					mustPath(t, g, way[1], to, way[1:]...)
				}
				for _, between := range reached { // no other way is shorter
					a, _ := g.Path(from, between)
					b, e := g.Path(between, to)
					if e == api.OK && len(a)+len(b)-1 < len(way) {
						t.Error(way, a, b)
					}
				}
			}
		}
	})
}

// P14.10: each node is in one part; turned, the parts are the same; there is an order just if each part is one node without an edge to itself, and a ring just if there is no order.
func TestPartsOfAll(t *testing.T) {
	someGraphs(t, func(r *rand.Rand, p plain, g *graph.Graph) {
		parts := g.Parts()
		mustParts(t, g.Turned(), parts...)
		var all []api.Ref
		flat := true
		for _, part := range parts {
			all = append(all, part...)
			flat = flat && len(part) == 1 && !p.edge(part[0], part[0])
		}
		slices.Sort(all)
		mustRefs(t, "parts", all, api.OK, api.OK, g.Nodes()...)
		l, e := g.Order()
		_, is := g.Ring()
		if flat != (e == api.OK) || is == flat {
			t.Error(parts, l, e, is)
		}
		for _, edge := range g.Edges() {
			if e == api.OK && slices.Index(l, edge.From) >= slices.Index(l, edge.To) {
				t.Error("an order against", edge)
			}
		}
	})
}

// P14.11: the keeper of what is kept, but of node itself, is kept; what a kept one keeps is kept.
func TestKeptOfAll(t *testing.T) {
	someGraphs(t, func(r *rand.Rand, p plain, g *graph.Graph) {
		from := p.some(r)
		for _, node := range p.nodes {
			kept, _ := g.Keeps(from, node)
			for _, n := range kept {
				if k, is, e := g.Keeper(from, n); n != node && (e != api.OK || !is || !slices.Contains(kept, k)) {
					t.Error(from, node, kept, n, k, is, e)
				}
				inner, _ := g.Keeps(from, n)
				for _, m := range inner {
					if !slices.Contains(kept, m) {
						t.Error(from, node, kept, n, inner)
					}
				}
			}
			if k, is, _ := g.Keeper(from, node); is { // and who keeps it
				if l, _ := g.Keeps(from, k); !slices.Contains(l, node) {
					t.Error(from, node, k, l)
				}
			}
		}
	})
}

// P14.12: a walk enters each node that is reached once, and leaves it once, behind all that it entered meanwhile.
func TestEnteredOnce(t *testing.T) {
	someGraphs(t, func(r *rand.Rand, p plain, g *graph.Graph) {
		from := p.some(r)
		var entered, left, open []api.Ref
		e := g.Walk(from, func(n api.Ref) bool {
			entered = append(entered, n)
			open = append(open, n)
			return true
		}, func(n api.Ref) bool {
			if len(open) == 0 || open[len(open)-1] != n {
				t.Error(n, "left while in", open)
			} else {
				open = open[:len(open)-1]
			}
			left = append(left, n)
			return true
		})
		slices.Sort(entered)
		slices.Sort(left)
		reached, _ := g.Reach(from)
		mustRefs(t, "entered", entered, e, api.OK, reached...)
		mustRefs(t, "left", left, e, api.OK, reached...)
	})
}

// What no call of the package made answers whatever it likes, but it answers.
func TestZeroEnds(t *testing.T) {
	var g graph.Graph
	g.Nodes()
	g.Edges()
	g.Turned().Turned().Parts()
	g.Reach(refs(1))
	g.Path(0, 0)
	g.Parts()
	g.Order()
	g.Ring()
	g.Keeps(nil, 0)
	g.Keeper(refs(0), 0)
	g.Walk(refs(0), func(api.Ref) bool { return true }, func(api.Ref) bool { return true })
}
