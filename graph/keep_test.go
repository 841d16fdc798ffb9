package graph_test

import (
	"testing"

	"tenon/api"
)

// P14.7: a node that keeps nothing but itself, that keeps all, that is not reached, that is among from.
func TestKeeps(t *testing.T) {
	g := made(t, upTo(7), pairs(1, 2, 2, 3, 3, 2, 1, 4, 3, 5, 4, 5, 6, 4))
	mustKeep(t, g, refs(1), 1, 1, 2, 3, 4, 5)
	mustKeep(t, g, refs(1), 2, 2, 3)
	mustKeep(t, g, refs(1), 3, 3)
	mustKeep(t, g, refs(1), 4, 4)
	mustKeep(t, g, refs(1), 5, 5)
	mustKeep(t, g, refs(1), 6)
	mustKeep(t, g, refs(1), 7)
	mustKeep(t, g, refs(1, 6), 1, 1, 2, 3)
	mustKeep(t, g, refs(1, 6), 6, 6)
	mustKeep(t, g, refs(6), 6, 4, 5, 6)
	mustKeep(t, g, refs(1, 3), 2, 2)
	mustKeep(t, g, refs(1, 3), 3, 3)
	mustKeep(t, g, refs(3, 1, 3, 1), 1, 1, 4)
	mustKeep(t, g, refs(2, 3), 2, 2)
	mustKeep(t, g, refs(7), 7, 7)
	mustKeep(t, g, nil, 7)
	mustKeep(t, g, nil, 1)
	mustKeep(t, g, g.Nodes(), 1, 1)
	self := made(t, refs(3, 8), pairs(3, 3, 3, 8, 8, 8))
	mustKeep(t, self, refs(3), 3, 3, 8)
	mustKeep(t, self, refs(3), 8, 8)
}

// P14.7: what is no node is told, whichever it is, also where node is not reached.
func TestKeepsWrong(t *testing.T) {
	g := made(t, upTo(3), pairs(1, 2))
	for _, w := range []struct {
		from []api.Ref
		node api.Ref
	}{{nil, 0}, {nil, 4}, {refs(1), 4}, {refs(1), 0}, {refs(4), 1}, {refs(1, 4), 1}, {refs(4, 1), 3}, {refs(4), 4}, {refs(0), 0}, {refs(1, 1, 0), 2}} {
		l, e := g.Keeps(w.from, w.node)
		mustRefs(t, w, l, e, api.ErrNode)
		if k, is, e := g.Keeper(w.from, w.node); k != 0 || is || e != api.ErrNode {
			t.Error(w, k, is, e)
		}
	}
}

// P14.7: no keeper of what is among from, nor of what two ways lead to; of several the nearest.
func TestKeeper(t *testing.T) {
	g := made(t, upTo(8), pairs(1, 2, 2, 3, 3, 4, 3, 5, 4, 6, 5, 6, 6, 7, 7, 2))
	mustBeKept(t, g, refs(1), 1, 0)
	mustBeKept(t, g, refs(1), 2, 1)
	mustBeKept(t, g, refs(1), 3, 2)
	mustBeKept(t, g, refs(1), 4, 3)
	mustBeKept(t, g, refs(1), 5, 3)
	mustBeKept(t, g, refs(1), 6, 3)
	mustBeKept(t, g, refs(1), 7, 6)
	mustBeKept(t, g, refs(1, 1, 1), 7, 6)
	mustBeKept(t, g, refs(1, 7), 7, 0)
	mustBeKept(t, g, refs(7, 1), 2, 0)
	mustBeKept(t, g, refs(1, 7), 6, 3)
	mustBeKept(t, g, refs(5, 4), 6, 0)
	mustBeKept(t, g, refs(5, 4), 7, 6)
	mustBeKept(t, g, refs(5, 4), 3, 2)
	mustBeKept(t, g, refs(4), 6, 4)
	mustBeKept(t, g, refs(4), 4, 0)
	for _, from := range [][]api.Ref{nil, refs(1), refs(1, 2, 7)} {
		if k, is, e := g.Keeper(from, 8); k != 0 || is || e != api.ErrWay {
			t.Error(from, k, is, e)
		}
	}
	if k, is, e := g.Keeper(nil, 1); k != 0 || is || e != api.ErrWay {
		t.Error(k, is, e)
	}
	mustBeKept(t, made(t, refs(4), pairs(4, 4)), refs(4), 4, 0)
}

// P14.7: a node is passed by on whichever way beside: by one edge, by a long way, by another one of from, by way of what was left already.
func TestKeeperPassedBy(t *testing.T) {
	long := pairs(1, 2, 2, 3, 3, 4, 4, 5)
	with := func(ends ...api.Ref) []api.Edge { return append(pairs(ends...), long...) }
	mustBeKept(t, made(t, upTo(9), long), refs(1), 5, 4)
	mustBeKept(t, made(t, upTo(9), with(3, 5)), refs(1), 5, 3)
	mustBeKept(t, made(t, upTo(9), with(2, 4, 3, 5)), refs(1), 5, 2)
	mustBeKept(t, made(t, upTo(9), with(2, 4, 4, 2)), refs(1), 5, 4)
	mustBeKept(t, made(t, upTo(9), with(1, 6, 6, 7, 7, 8, 8, 9, 9, 3, 3, 5)), refs(1), 5, 3)
	mustBeKept(t, made(t, upTo(9), with(1, 6, 6, 7, 7, 8, 8, 9, 9, 5)), refs(1), 5, 1)
	mustBeKept(t, made(t, upTo(9), with(9, 4)), refs(1, 9), 5, 4)
	mustBeKept(t, made(t, upTo(9), with(9, 5)), refs(1, 9), 5, 0)
	mustBeKept(t, made(t, upTo(9), long), refs(1, 3), 5, 4)
	mustBeKept(t, made(t, upTo(9), long), refs(1, 3), 3, 0)
	// 6 is left from 1 on and comes behind 4 only by way of 3, which lies on the way itself
	mustBeKept(t, made(t, upTo(9), with(1, 6, 6, 3, 3, 6)), refs(1), 5, 4)
	mustBeKept(t, made(t, upTo(9), with(1, 6, 6, 3, 3, 7, 7, 5)), refs(1), 5, 3)
}
