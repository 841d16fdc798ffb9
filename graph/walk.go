package graph

import (
	"slices"

	"tenon/api"
)

// walk is who was entered, and who is told of it. (Its calls go as deep as there are nodes in a row, of which there are no more than MaxHeap.)
type walk struct {
	next         [][]int
	entered      []bool // by places
	enter, leave func(n int) bool
}

// walk begins one.
func (g *Graph) walk(enter, leave func(n int) bool) walk {
	return walk{next: g.next, entered: make([]bool, len(g.nodes)), enter: enter, leave: leave}
}

// all has nodes entered, each if it was not yet; false, if nothing further is to be called.
func (w walk) all(nodes []int) bool {
	for _, n := range nodes {
		if !w.entered[n] && !w.one(n) {
			return false
		}
	}
	return true
}

// one has a node entered, what it leads to, and it left.
func (w walk) one(n int) bool {
	w.entered[n] = true
	if w.enter(n) && !w.all(w.next[n]) {
		return false
	}
	return w.leave(n)
}

// parts is the nodes that reach one another, together, each part rising. Of those in no part yet, whoever was left last reaches all that reach it: so they are the next part.
func (g *Graph) parts() [][]api.Ref {
	var all, left []int
	for n := range g.nodes {
		all = append(all, n)
	}
	yes := func(int) bool { return true }
	g.walk(yes, func(n int) bool { left = append(left, n); return true }).all(all)
	var part []int
	back := g.Turned().walk(yes, func(n int) bool { part = append(part, n); return true })
	var parts [][]api.Ref
	for _, n := range slices.Backward(left) {
		part = nil
		if back.all([]int{n}); len(part) > 0 {
			parts = append(parts, g.rising(part))
		}
	}
	return parts
}
