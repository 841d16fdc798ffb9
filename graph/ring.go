package graph

import "slices"

// ringFrom is, of the rings that begin at a node and have no lesser one, the shortest, the least of those; none, if there is none. In by stands nobody for each node, ahead and behind.
func (g *Graph) ringFrom(start int, by []int) []int {
	by[start] = start
	met := []int{start}
	defer func() {
		for _, n := range met {
			by[n] = nobody
		}
	}()
	for at := 0; at < len(met); at++ {
		for _, n := range g.next[met[at]] {
			if n == start {
				return spread{by: by}.way(met[at])
			}
			if n > start && by[n] == nobody {
				by[n] = met[at]
				met = append(met, n)
			}
		}
	}
	return nil
}

// keeper is, of the nodes through which all ways from some nodes to the end of a way go, the last one ahead of that end, or nobody. The way is one of those, so that all of them lie on it; on it one is passed by, if from what lies ahead of it something behind it is reached beside the way.
func (g *Graph) keeper(from, way []int) int {
	on := g.nobodies() // by places: where on the way it is
	for at, n := range way {
		on[n] = at
	}
	far := nobody // how far on the way one comes without the rest of it
	seen := g.nobodies()
	meet := func(nodes []int) {
		todo := slices.Clone(nodes)
		for len(todo) > 0 {
			n := todo[len(todo)-1]
			todo = todo[:len(todo)-1]
			far = max(far, on[n])
			if on[n] == nobody && seen[n] == nobody {
				seen[n] = n
				todo = append(todo, g.next[n]...)
			}
		}
	}
	meet(from)
	last := nobody
	for at, n := range way[:len(way)-1] {
		if far == at {
			last = n
		}
		meet(g.next[n])
	}
	return last
}
