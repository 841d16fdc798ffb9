package graph

import (
	"slices"

	"tenon/api"
)

// nobody is no node's place.
const nobody = -1

// bare is the graph of nodes without an edge; false, if they can't be.
func bare(nodes []api.Ref) (*Graph, bool) {
	g := &Graph{nodes: slices.Clone(nodes), places: map[api.Ref]int{}, next: make([][]int, len(nodes))}
	slices.Sort(g.nodes)
	for place, id := range g.nodes {
		g.places[id] = place
	}
	_, nought := g.places[0]
	return g, !nought && len(g.places) == len(nodes)
}

// connect gives a graph without an edge its edges; false, if one has an end that is no node.
func (g *Graph) connect(edges []api.Edge) bool {
	for _, edge := range edges {
		from, is := g.places[edge.From]
		to, too := g.places[edge.To]
		if !is || !too {
			return false
		}
		g.next[from] = append(g.next[from], to)
	}
	for from, next := range g.next {
		slices.Sort(next)
		g.next[from] = slices.Compact(next)
	}
	return true
}

// placesOf is where nodes stand; false, if one is none.
func (g *Graph) placesOf(nodes []api.Ref) ([]int, bool) {
	var l []int
	for _, id := range nodes {
		place, there := g.places[id]
		if !there {
			return nil, false
		}
		l = append(l, place)
	}
	return l, true
}

// refs is the nodes that stand in places.
func (g *Graph) refs(places []int) []api.Ref {
	var l []api.Ref
	for _, place := range places {
		l = append(l, g.nodes[place])
	}
	return l
}

// rising is the same, rising: so do the places of nodes.
func (g *Graph) rising(places []int) []api.Ref {
	return g.refs(slices.Sorted(slices.Values(places)))
}

// nobodies is nobody for each node.
func (g *Graph) nobodies() []int { return slices.Repeat([]int{nobody}, len(g.nodes)) }
