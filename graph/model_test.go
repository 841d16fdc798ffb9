package graph_test

import (
	"math/rand"
	"slices"
	"testing"

	"tenon/api"
	"tenon/graph"
)

// plain is what the chapter says of a graph, as plainly as it can be said: all is found by trying.
type plain struct {
	nodes []api.Ref // rising
	edges []api.Edge
}

func (p plain) edge(from, to api.Ref) bool {
	return slices.Contains(p.edges, api.Edge{From: from, To: to})
}

// less is the graph without a node and its edges.
func (p plain) less(node api.Ref) plain {
	var q plain
	for _, n := range p.nodes {
		if n != node {
			q.nodes = append(q.nodes, n)
		}
	}
	for _, e := range p.edges {
		if e.From != node && e.To != node {
			q.edges = append(q.edges, e)
		}
	}
	return q
}

// reach adds to nodes whom an edge leads to, until nothing comes; those of from that are no nodes are left out.
func (p plain) reach(from []api.Ref) []api.Ref {
	var l []api.Ref
	for _, n := range p.nodes {
		if slices.Contains(from, n) {
			l = append(l, n)
		}
	}
	for again := true; again; {
		again = false
		for _, e := range p.edges {
			if slices.Contains(l, e.From) && !slices.Contains(l, e.To) {
				l = append(l, e.To)
				again = true
			}
		}
	}
	slices.Sort(l)
	return l
}

func (p plain) reaches(from []api.Ref, to api.Ref) bool { return slices.Contains(p.reach(from), to) }

// ways is all ways from the last node of a way to another one on which no node comes twice.
func (p plain) ways(way []api.Ref, to api.Ref) [][]api.Ref {
	last := way[len(way)-1]
	if last == to {
		return [][]api.Ref{way}
	}
	var l [][]api.Ref
	for _, n := range p.nodes {
		if p.edge(last, n) && !slices.Contains(way, n) {
			l = append(l, p.ways(append(slices.Clone(way), n), to)...)
		}
	}
	return l
}

// best is, of lists, the shortest, and of these the least.
func best(lists [][]api.Ref) []api.Ref {
	if len(lists) == 0 {
		return nil
	}
	return slices.MinFunc(lists, func(a, b []api.Ref) int {
		if len(a) != len(b) {
			return len(a) - len(b)
		}
		return slices.Compare(a, b)
	})
}

// rings is all ways from a node by an edge back to it, without the end, on which no node comes twice.
func (p plain) rings() [][]api.Ref {
	var l [][]api.Ref
	for _, a := range p.nodes {
		for _, b := range p.nodes {
			if p.edge(b, a) {
				l = append(l, p.ways(refs(a), b)...)
			}
		}
	}
	return l
}

// orders is all orders that begin so, each ahead of all to which it has an edge.
func (p plain) orders(begun []api.Ref) [][]api.Ref {
	if len(begun) == len(p.nodes) {
		return [][]api.Ref{begun}
	}
	var l [][]api.Ref
	for _, n := range p.nodes {
		can := !slices.Contains(begun, n)
		for _, m := range append(slices.Clone(begun), n) {
			can = can && !p.edge(n, m)
		}
		if can {
			l = append(l, p.orders(append(slices.Clone(begun), n))...)
		}
	}
	return l
}

func (p plain) parts() [][]api.Ref {
	var l [][]api.Ref
	for _, n := range p.nodes {
		var part []api.Ref
		for _, m := range p.nodes {
			if p.reaches(refs(n), m) && p.reaches(refs(m), n) {
				part = append(part, m)
			}
		}
		if part[0] == n {
			l = append(l, part)
		}
	}
	return l
}

func (p plain) keeps(from []api.Ref, node api.Ref) []api.Ref {
	rest := p.less(node).reach(from)
	return slices.DeleteFunc(p.reach(from), func(n api.Ref) bool { return slices.Contains(rest, n) })
}

// keeper is, of all others without which node is not reached, the one without which none of the others reaches it; 0, if there is none.
func (p plain) keeper(from []api.Ref, node api.Ref) api.Ref {
	var all []api.Ref
	for _, n := range p.nodes {
		if n != node && !p.less(n).reaches(from, node) {
			all = append(all, n)
		}
	}
	for _, n := range all {
		if !slices.ContainsFunc(all, func(m api.Ref) bool { return m != n && p.less(n).reaches(refs(m), node) }) {
			return n
		}
	}
	return 0
}

// walk writes down what is called, as the chapter tells it; false, if nothing further is called.
func (p plain) walk(s *steps, n api.Ref) bool {
	if slices.Contains(s.l, int(n)) {
		return true
	}
	if s.enter(n) {
		for _, m := range p.nodes {
			if p.edge(n, m) && !p.walk(s, m) {
				return false
			}
		}
	}
	return s.leave(n)
}

// anyGraph is a graph of some nodes under numbers far apart, with edges by chance.
func anyGraph(r *rand.Rand, most int) plain {
	var p plain
	for n := range r.Intn(most + 1) {
		p.nodes = append(p.nodes, api.Ref(1+n*n*7))
	}
	if len(p.nodes) > 0 {
		for range r.Intn(len(p.nodes) * 3) {
			p.edges = append(p.edges, api.Edge{From: p.pick(r), To: p.pick(r)})
		}
	}
	if r.Intn(3) == 0 { // without rings
		p.edges = slices.DeleteFunc(p.edges, func(e api.Edge) bool { return e.From >= e.To })
		mixed := r.Perm(len(p.nodes))
		other := func(n api.Ref) api.Ref { return p.nodes[mixed[slices.Index(p.nodes, n)]] }
		for i, e := range p.edges {
			p.edges[i] = api.Edge{From: other(e.From), To: other(e.To)}
		}
	}
	return p
}

func (p plain) pick(r *rand.Rand) api.Ref { return p.nodes[r.Intn(len(p.nodes))] }

// some is some nodes, in whatever order, twice too.
func (p plain) some(r *rand.Rand) []api.Ref {
	var l []api.Ref
	if len(p.nodes) > 0 {
		for range r.Intn(4) {
			l = append(l, p.pick(r))
		}
	}
	return l
}

// mustBe holds all that a graph answers against the plain one.
func (p plain) mustBe(t *testing.T, r *rand.Rand, g *graph.Graph) {
	t.Helper()
	for _, a := range p.nodes {
		for _, b := range p.nodes {
			want := best(p.ways(refs(a), b))
			l, e := g.Path(a, b)
			if len(want) == 0 {
				mustRefs(t, "Path", l, e, api.ErrWay)
			} else {
				mustRefs(t, "Path", l, e, api.OK, want...)
			}
		}
	}
	if rings := p.rings(); len(rings) > 0 {
		mustRing(t, g, best(rings)...)
		if len(p.orders(nil)) > 0 {
			t.Error("an order with rings", p)
		}
	} else {
		mustOrder(t, g, best(p.orders(nil))...)
	}
	mustParts(t, g, p.parts()...)
	for range 4 {
		p.mustBeFrom(t, r, g, p.some(r))
	}
}

func (p plain) mustBeFrom(t *testing.T, r *rand.Rand, g *graph.Graph, from []api.Ref) {
	t.Helper()
	mustReach(t, g, from, p.reach(from)...)
	for _, n := range p.nodes {
		mustKeep(t, g, from, n, p.keeps(from, n)...)
		if p.reaches(from, n) {
			mustBeKept(t, g, from, n, p.keeper(from, n))
		} else if k, is, e := g.Keeper(from, n); k != 0 || is || e != api.ErrWay {
			t.Error(k, is, e)
		}
	}
	s := steps{closed: p.some(r)}
	if len(p.nodes) > 0 && r.Intn(2) == 0 {
		s.last = p.pick(r)
	}
	model := s
	for _, n := range from {
		if !p.walk(&model, n) {
			break
		}
	}
	s.must(t, g, from, api.OK, model.l...)
}

// P14.1 to P14.8: graphs of few nodes, whatever their edges are, answer what trying finds.
func TestModel(t *testing.T) {
	r := rand.New(rand.NewSource(14))
	rings, orders := 0, 0
	for range 1200 {
		p := anyGraph(r, 6)
		g := made(t, p.nodes, p.edges)
		p.mustBe(t, r, g)
		if _, is := g.Ring(); is {
			rings++
		} else if len(p.edges) > 2 {
			orders++
		}
		var back plain
		back.nodes = p.nodes
		for _, e := range p.edges {
			back.edges = append(back.edges, api.Edge{From: e.To, To: e.From})
		}
		back.mustBe(t, r, g.Turned())
		if t.Failed() {
			t.Fatal(p)
		}
	}
	if rings < 300 || orders < 60 {
		t.Error("too few", rings, orders)
	}
}

// P14.1 to P14.8: all graphs of three nodes, with each set of edges.
func TestAllSmall(t *testing.T) {
	r := rand.New(rand.NewSource(3))
	nodes := refs(1, 5, 6)
	for set := range 1 << 9 {
		p := plain{nodes: nodes}
		for i := range 9 {
			if set>>i&1 == 1 {
				p.edges = append(p.edges, api.Edge{From: nodes[i/3], To: nodes[i%3]})
			}
		}
		p.mustBe(t, r, made(t, p.nodes, p.edges))
		if t.Failed() {
			t.Fatal(p)
		}
	}
}

// P14.3, P14.5, P14.7: the same for graphs of more nodes, as far as trying gets.
func TestModelLarger(t *testing.T) {
	r := rand.New(rand.NewSource(41))
	kept := 0
	for range 60 {
		p := anyGraph(r, 24)
		g := made(t, p.nodes, p.edges)
		mustParts(t, g, p.parts()...)
		from := p.some(r)
		p.mustBeFrom(t, r, g, from)
		for _, n := range p.nodes {
			if k, is, _ := g.Keeper(from, n); is && !slices.Contains(from, k) {
				kept++
			}
		}
		if t.Failed() {
			t.Fatal(p)
		}
	}
	if kept < 30 {
		t.Error("too few", kept)
	}
}
