package graph

import "slices"

// spread is what is reached from some nodes, the nearest first.
type spread struct {
	by    []int // by places: who led there first (it itself, where it begins), or nobody
	order []int // who is reached, in the order in which they were
}

// spread goes out from some nodes, as if one of the graph's nodes (or nobody) were not there.
func (g *Graph) spread(from []int, without int) spread {
	s := spread{by: g.nobodies()}
	meet := func(n, by int) {
		if n != without && !s.has(n) {
			s.by[n] = by
			s.order = append(s.order, n)
		}
	}
	for _, n := range from {
		meet(n, n)
	}
	for at := 0; at < len(s.order); at++ {
		for _, n := range g.next[s.order[at]] {
			meet(n, s.order[at])
		}
	}
	return s
}

// has tells whether a node is reached.
func (s spread) has(n int) bool { return s.by[n] != nobody }

// way is a shortest way to a node that is reached. From one node it is the least of them: those of the same distance are met in the order of their least ways, since each one's edges are followed rising.
func (s spread) way(to int) []int {
	l := []int{to}
	for s.by[to] != to {
		to = s.by[to]
		l = append(l, to)
	}
	slices.Reverse(l)
	return l
}
