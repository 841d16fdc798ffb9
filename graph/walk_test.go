package graph_test

import (
	"runtime"
	"slices"
	"testing"

	"tenon/api"
	"tenon/graph"
	"tenon/sample"
)

// steps is what a walk called: a node for an entering, and one with minus for a leaving.
type steps struct {
	l        []int
	closed   []api.Ref // whose enter answers false
	last     api.Ref   // whose leave answers false
	panicIn  api.Ref   // whose enter panics
	panicOut api.Ref   // whose leave panics
	thrown   any
}

func (s *steps) enter(n api.Ref) bool {
	s.l = append(s.l, int(n))
	if n == s.panicIn {
		panic(s.thrown)
	}
	return !slices.Contains(s.closed, n)
}

func (s *steps) leave(n api.Ref) bool {
	s.l = append(s.l, -int(n))
	if n == s.panicOut {
		panic(s.thrown)
	}
	return n != s.last
}

// must walks, and holds what was called against what is wanted.
func (s steps) must(t *testing.T, g *graph.Graph, from []api.Ref, e api.Errno, want ...int) {
	t.Helper()
	if got := g.Walk(from, s.enter, s.leave); got != e || !slices.Equal(s.l, want) {
		t.Errorf("Walk(%d) with %+v: %d, want %d, %d", from, s, got, want, e)
	}
}

func diamond(t *testing.T) *graph.Graph {
	t.Helper()
	return made(t, upTo(7), pairs(1, 3, 1, 2, 2, 4, 3, 4, 4, 1, 4, 4, 4, 5, 6, 5))
}

// P14.8: who is entered and left in which order; from's own order.
func TestWalk(t *testing.T) {
	g := diamond(t)
	steps{}.must(t, g, nil, api.OK)
	steps{}.must(t, g, refs(1), api.OK, 1, 2, 4, 5, -5, -4, -2, 3, -3, -1)
	steps{}.must(t, g, refs(4), api.OK, 4, 1, 2, -2, 3, -3, -1, 5, -5, -4)
	steps{}.must(t, g, refs(5), api.OK, 5, -5)
	steps{}.must(t, g, refs(7, 6, 5, 6, 7), api.OK, 7, -7, 6, 5, -5, -6)
	steps{}.must(t, g, refs(5, 6, 7), api.OK, 5, -5, 6, -6, 7, -7)
	steps{}.must(t, g, refs(3, 3, 2), api.OK, 3, 4, 1, 2, -2, -1, 5, -5, -4, -3)
}

// P14.8: false of enter: what the node leads to is not entered by it, but it is left.
func TestWalkClosed(t *testing.T) {
	g := diamond(t)
	steps{closed: refs(1)}.must(t, g, refs(1), api.OK, 1, -1)
	steps{closed: refs(2)}.must(t, g, refs(1), api.OK, 1, 2, -2, 3, 4, 5, -5, -4, -3, -1)
	steps{closed: refs(4)}.must(t, g, refs(1), api.OK, 1, 2, 4, -4, -2, 3, -3, -1)
	steps{closed: refs(5)}.must(t, g, refs(1), api.OK, 1, 2, 4, 5, -5, -4, -2, 3, -3, -1)
	steps{closed: refs(2, 3)}.must(t, g, refs(1, 4), api.OK, 1, 2, -2, 3, -3, -1, 4, 5, -5, -4)
	steps{closed: upTo(7)}.must(t, g, refs(3, 1, 3, 2), api.OK, 3, -3, 1, -1, 2, -2)
}

// P14.8: false of leave: nothing further is called, and OK.
func TestWalkLast(t *testing.T) {
	g := diamond(t)
	whole := []int{1, 2, 4, 5, -5, -4, -2, 3, -3, -1, 6, -6, 7, -7}
	for at, n := range whole {
		if n < 0 {
			steps{last: api.Ref(-n)}.must(t, g, refs(1, 6, 7), api.OK, whole[:at+1]...)
		}
	}
	steps{last: 4, closed: refs(4)}.must(t, g, refs(1, 6), api.OK, 1, 2, 4, -4)
	steps{last: 99}.must(t, g, refs(1, 6, 7), api.OK, whole...)
}

// P14.8: a panic of one of the two, with whatever: nothing further is called, and ErrPanic; the graph is as it was.
func TestWalkPanics(t *testing.T) {
	g := diamond(t)
	ahead := told(g)
	whole := []int{1, 2, 4, 5, -5, -4, -2, 3, -3, -1, 6, -6, 7, -7}
	for _, x := range sample.Thrown() {
		for at, n := range whole {
			s := steps{panicIn: api.Ref(n), thrown: x}
			if n < 0 {
				s = steps{panicOut: api.Ref(-n), thrown: x}
			}
			s.must(t, g, refs(1, 6, 7), api.ErrPanic, whole[:at+1]...)
		}
	}
	steps{}.must(t, g, refs(1, 6, 7), api.OK, whole...)
	if !told(g).is(ahead) {
		t.Error("the graph has changed")
	}
}

// P14.8: nil functions, and nodes that are none: which is told first; nobody is called.
func TestWalkWrong(t *testing.T) {
	g := diamond(t)
	no := func(n api.Ref) bool { t.Error("called with", n); return true }
	for _, from := range [][]api.Ref{nil, refs(1), refs(99), refs(0, 1)} {
		for _, e := range []api.Errno{g.Walk(from, nil, nil), g.Walk(from, no, nil), g.Walk(from, nil, no)} {
			if e != api.ErrArg {
				t.Error(from, e)
			}
		}
	}
	for _, from := range [][]api.Ref{refs(0), refs(8), refs(1, 8), refs(8, 1), refs(1, 2, 3, 4, 0)} {
		if e := g.Walk(from, no, no); e != api.ErrNode {
			t.Error(from, e)
		}
	}
	if e := g.Walk(nil, no, no); e != api.OK {
		t.Error(e)
	}
}

// P14.8: who is called may ask the graph all that it answers, walk it meanwhile, give up in that, and write into from.
func TestWalkAsks(t *testing.T) {
	g := diamond(t)
	ahead := told(g)
	from := refs(1, 6, 7)
	var s steps
	ask := func(n api.Ref) {
		if !told(g).is(ahead) || !told(g.Turned().Turned()).is(ahead) {
			t.Error("at", n, "the graph is another one")
		}
		steps{}.must(t, g, refs(6, 5), api.OK, 6, 5, -5, -6)
		steps{panicIn: 5, thrown: "x"}.must(t, g, refs(6, 5), api.ErrPanic, 6, 5)
		steps{last: 5}.must(t, g, refs(6, 5), api.OK, 6, 5, -5)
		clear(from)
	}
	enter := func(n api.Ref) bool { ask(n); return s.enter(n) }
	leave := func(n api.Ref) bool { ask(n); return s.leave(n) }
	if e := g.Walk(from, enter, leave); e != api.OK || !slices.Equal(s.l, []int{1, 2, 4, 5, -5, -4, -2, 3, -3, -1, 6, -6, 7, -7}) {
		t.Error(e, s.l)
	}
}

// A goroutine that ends within a visitor ends, and harms no later walk.
func TestWalkEnded(t *testing.T) {
	g := diamond(t)
	ended := make(chan int)
	go func() {
		defer close(ended)
		g.Walk(refs(1), func(api.Ref) bool { runtime.Goexit(); return true }, func(api.Ref) bool { return true })
		t.Error("came back")
	}()
	<-ended
	steps{}.must(t, g, refs(5), api.OK, 5, -5)
}
