package graph_test

import (
	"slices"
	"testing"

	"tenon/api"
)

// P14.3: from none, from several, from one that stands there twice, from one that is none.
func TestReach(t *testing.T) {
	g := made(t, refs(9, 1, 2, 3, 4, 5), pairs(1, 2, 2, 3, 3, 2, 1, 4, 5, 5))
	mustReach(t, g, nil)
	mustReach(t, g, refs(), []api.Ref{}...)
	mustReach(t, g, refs(1), 1, 2, 3, 4)
	mustReach(t, g, refs(2), 2, 3)
	mustReach(t, g, refs(3), 2, 3)
	mustReach(t, g, refs(4), 4)
	mustReach(t, g, refs(5), 5)
	mustReach(t, g, refs(9, 4, 9), 4, 9)
	mustReach(t, g, refs(5, 3, 5, 3, 3), 2, 3, 5)
	mustReach(t, g, refs(9, 5, 4, 3, 2, 1), 1, 2, 3, 4, 5, 9)
	mustReach(t, g, slices.Repeat(refs(4), 100000), 4)
	for _, from := range [][]api.Ref{refs(0), refs(6), refs(1, 6), refs(6, 1), refs(1, 2, 3, 0), append(slices.Repeat(refs(1), 5000), 10)} {
		l, e := g.Reach(from)
		mustRefs(t, from, l, e, api.ErrNode)
	}
	l, e := made(t, nil, nil).Reach(refs(1))
	mustRefs(t, "of none", l, e, api.ErrNode)
}

// P14.4: from a node to itself; the fewest nodes, and then the least; no way; no nodes.
func TestPath(t *testing.T) {
	g := made(t, upTo(9), pairs(1, 2, 1, 3, 2, 4, 3, 4, 4, 1, 4, 5, 5, 6, 4, 6, 7, 7, 8, 9))
	for _, n := range g.Nodes() {
		mustPath(t, g, n, n, n)
	}
	mustPath(t, g, 1, 4, 1, 2, 4)
	mustPath(t, g, 1, 6, 1, 2, 4, 6)
	mustPath(t, g, 2, 3, 2, 4, 1, 3)
	mustPath(t, g, 8, 9, 8, 9)
	for _, ends := range [][2]api.Ref{{9, 8}, {6, 1}, {1, 7}, {7, 1}} {
		l, e := g.Path(ends[0], ends[1])
		mustRefs(t, ends, l, e, api.ErrWay)
	}
	for _, ends := range [][2]api.Ref{{0, 0}, {1, 0}, {0, 1}, {1, 10}, {10, 1}, {10, 10}, {10, 11}} {
		l, e := g.Path(ends[0], ends[1])
		mustRefs(t, ends, l, e, api.ErrNode)
	}
}

// P14.4: the least of the shortest ways goes by its first nodes first, not by its last ones, nor by who stands ahead.
func TestPathLeast(t *testing.T) {
	// 1-2-9-10 is less than 1-3-4-10, whose nodes ahead of the end are less
	g := made(t, upTo(10), pairs(1, 3, 3, 4, 4, 10, 1, 2, 2, 9, 9, 10))
	mustPath(t, g, 1, 10, 1, 2, 9, 10)
	// of 1-5-6-10, 1-5-7-10 and 1-8-2-10 the first
	g = made(t, upTo(10), pairs(1, 8, 8, 2, 2, 10, 1, 5, 5, 7, 7, 10, 5, 6, 6, 10))
	mustPath(t, g, 1, 10, 1, 5, 6, 10)
	// a longer way by lesser nodes is not taken
	g = made(t, upTo(10), pairs(9, 1, 1, 2, 2, 3, 9, 8, 8, 3))
	mustPath(t, g, 9, 3, 9, 8, 3)
	// two levels of which the second is met by the greater one, too
	g = made(t, upTo(7), pairs(1, 2, 1, 3, 2, 6, 3, 4, 3, 5, 4, 7, 5, 7, 6, 7))
	mustPath(t, g, 1, 7, 1, 2, 6, 7)
}

// P14.5: parts in parts' company.
func TestParts(t *testing.T) {
	g := made(t, refs(9, 8, 7, 6, 5, 4, 3, 2, 1), pairs(9, 1, 1, 5, 5, 9, 5, 2, 2, 8, 8, 2, 8, 3, 3, 3, 6, 4, 4, 7, 7, 6, 7, 9))
	mustParts(t, g, refs(1, 5, 9), refs(2, 8), refs(3), refs(4, 6, 7))
	mustParts(t, g.Turned(), refs(1, 5, 9), refs(2, 8), refs(3), refs(4, 6, 7))
	mustParts(t, made(t, refs(3, 1, 2), nil), refs(1), refs(2), refs(3))
	mustParts(t, made(t, refs(3, 1, 2), pairs(1, 2, 2, 3)), refs(1), refs(2), refs(3))
	mustParts(t, made(t, refs(3, 1, 2), pairs(1, 2, 2, 3, 3, 1)), refs(1, 2, 3))
	// two rings with an edge there and none back; with one back they are one part
	mustParts(t, made(t, upTo(4), pairs(1, 3, 3, 1, 2, 4, 4, 2, 1, 2)), refs(1, 3), refs(2, 4))
	mustParts(t, made(t, upTo(4), pairs(1, 3, 3, 1, 2, 4, 4, 2, 1, 2, 4, 3)), refs(1, 2, 3, 4))
	// two rings that share a node
	mustParts(t, made(t, upTo(5), pairs(1, 2, 2, 1, 2, 3, 3, 2, 3, 4)), refs(1, 2, 3), refs(4), refs(5))
}

// P14.6: the least that can stand there stands there, at each place.
func TestOrder(t *testing.T) {
	mustOrder(t, made(t, refs(3, 1, 2), nil), 1, 2, 3)
	mustOrder(t, made(t, refs(3, 1, 2), pairs(3, 1, 3, 2)), 3, 1, 2)
	mustOrder(t, made(t, refs(3, 1, 2), pairs(3, 2, 2, 1)), 3, 2, 1)
	mustOrder(t, made(t, upTo(5), pairs(5, 1, 3, 2)), 3, 2, 4, 5, 1)
	mustOrder(t, made(t, upTo(6), pairs(6, 1, 1, 2, 3, 2, 4, 5)), 3, 4, 5, 6, 1, 2)
	mustOrder(t, made(t, upTo(4), pairs(1, 2, 1, 3, 2, 4, 3, 4)), 1, 2, 3, 4)
	// 1 is free only behind 4, and stands at once there, ahead of 3
	mustOrder(t, made(t, upTo(5), pairs(2, 4, 4, 1, 4, 3, 1, 5)), 2, 4, 1, 3, 5)
}

// P14.6: the fewest nodes, and then the least.
func TestRing(t *testing.T) {
	mustRing(t, made(t, refs(5), pairs(5, 5)), 5)
	mustRing(t, made(t, refs(5, 2), pairs(5, 2, 2, 5)), 2, 5)
	mustRing(t, made(t, upTo(3), pairs(3, 1, 1, 2, 2, 3)), 1, 2, 3)
	mustRing(t, made(t, upTo(3), pairs(1, 3, 3, 2, 2, 1)), 1, 3, 2)
	// a shorter one by greater nodes; one of one node ahead of all
	mustRing(t, made(t, upTo(9), pairs(1, 2, 2, 3, 3, 1, 8, 9, 9, 8)), 8, 9)
	mustRing(t, made(t, upTo(9), pairs(1, 2, 2, 1, 8, 9, 9, 8, 9, 9)), 9)
	// of several of one length the least, also where the least node is in two
	mustRing(t, made(t, upTo(9), pairs(1, 9, 9, 2, 2, 1, 1, 4, 4, 8, 8, 1, 5, 6, 6, 7, 7, 5)), 1, 4, 8)
	mustRing(t, made(t, upTo(9), pairs(1, 4, 4, 8, 8, 1, 4, 7, 7, 1)), 1, 4, 7)
	mustRing(t, made(t, upTo(9), pairs(3, 4, 4, 3, 2, 5, 5, 2, 6, 9, 9, 6)), 2, 5)
	// rings that share nodes: the short one has not the least node
	mustRing(t, made(t, upTo(6), pairs(1, 2, 2, 3, 3, 1, 3, 4, 4, 3)), 3, 4)
	// a ring that no node leads into, and one behind a long way
	mustRing(t, made(t, upTo(6), pairs(6, 5, 5, 6, 5, 4, 4, 3)), 5, 6)
	mustRing(t, made(t, upTo(6), pairs(1, 2, 2, 3, 3, 4, 4, 5, 5, 6, 6, 4)), 4, 5, 6)
	// two ways to one node are no ring
	mustOrder(t, made(t, upTo(4), pairs(1, 2, 2, 4, 1, 3, 3, 4, 1, 4)), 1, 2, 3, 4)
	if r, is := made(t, upTo(4), pairs(1, 2, 2, 4, 1, 4)).Ring(); len(r) > 0 || is {
		t.Error(r, is)
	}
}
