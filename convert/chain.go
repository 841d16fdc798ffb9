package convert

import (
	"cmp"
	"container/heap"
	"slices"

	"tenon/api"
)

// maxCost is what a way costs at most.
const maxCost = 1000

// place is a class in one of its versions.
type place struct {
	class   string
	version int
}

// way is that one version of a class becomes another one by the converter of that number; below 0: it is gone back.
type way struct {
	class          string
	from, to, cost int
	number         int
}

// rule is of the way that a converter told: OK, or why it can't be, whatever others there are.
func (w way) rule() api.Errno {
	if e := placeRule(w.class, w.from, w.to); e != api.OK {
		return e
	}
	if w.from == w.to || w.cost < 1 || w.cost > maxCost {
		return api.ErrArg
	}
	return api.OK
}

func (w way) begin() place { return place{w.class, w.from} }

func (w way) end() place { return place{w.class, w.to} }

// back is the way of the same converter gone back.
func (w way) back() way {
	w.from, w.to, w.number = w.to, w.from, -w.number
	return w
}

// hasOne tells whether one of the ways is there already, by whichever converter.
func (r *Registry) hasOne(ways []way) bool {
	return slices.ContainsFunc(ways, func(w way) bool {
		return slices.ContainsFunc(r.ahead[w.begin()], func(there way) bool { return there.to == w.to })
	})
}

// open takes in ways that are not there yet, so that there are never two from one version to another one.
func (r *Registry) open(ways []way) {
	if r.ahead == nil {
		r.ahead, r.behind = map[place][]way{}, map[place][]way{}
	}
	for _, w := range ways {
		r.ahead[w.begin()] = append(r.ahead[w.begin()], w)
		r.behind[w.end()] = append(r.behind[w.end()], w)
	}
}

// reached is the versions to which a chain leads, rising.
func (r *Registry) reached(class string, from int) []int {
	var seen [api.MaxVersion + 1]bool
	seen[from] = true
	found := []int{from}
	for i := 0; i < len(found); i++ {
		for _, w := range r.ahead[place{class, found[i]}] {
			if !seen[w.to] {
				seen[w.to] = true
				found = append(found, w.to)
			}
		}
	}
	slices.Sort(found)
	return found
}

// price is what a chain costs, and how many ways it has.
type price struct{ cost, ways int }

// with is the price of one way more.
func (p price) with(w way) price { return price{p.cost + w.cost, p.ways + 1} }

func (p price) compare(q price) int {
	return cmp.Or(cmp.Compare(p.cost, q.cost), cmp.Compare(p.ways, q.ways))
}

// chain is the ways of the one chain from a version to another one.
func (r *Registry) chain(class string, from, to int) ([]way, api.Errno) {
	left := r.prices(class, from, to)
	if _, ok := left[from]; !ok {
		return nil, api.ErrChain
	}
	var chain []way
	for at := from; at != to; {
		w := r.next(place{class, at}, left)
		chain = append(chain, w)
		at = w.to
	}
	return chain, api.OK
}

// next is the way on which the chain goes on: of those by which all costs as little as it can, to the lowest version. All of these have as many ways left, so that no later version can make up for a higher one here.
func (r *Registry) next(at place, left map[int]price) way {
	var best way
	for _, w := range r.ahead[at] {
		p, ok := left[w.to]
		if ok && p.with(w) == left[at.version] && (best.number == 0 || w.to < best.to) {
			best = w
		}
	}
	return best
}

// prices is the least price of a chain to the last version, from the first one and from all versions from which it is lower. It goes from the last one back, the nearest first, and no further than to the first one: other versions may be missing, or have a price that is not the least, but not below that from the first one either. If no chain leads from the first one, it is missing.
func (r *Registry) prices(class string, first, last int) map[int]price {
	least := map[int]price{last: {}}
	open := frontier{{version: last}}
	for len(open) > 0 {
		at := open.nearest()
		if at.version == first {
			break
		}
		if at.price != least[at.version] { // it was come to for less meanwhile
			continue
		}
		for _, w := range r.behind[place{class, at.version}] {
			p := at.price.with(w)
			if known, ok := least[w.from]; !ok || p.compare(known) < 0 {
				least[w.from] = p
				heap.Push(&open, stop{w.from, p})
			}
		}
	}
	return least
}

// stop is a version that was come to, and the price of the chain from there.
type stop struct {
	version int
	price   price
}

// frontier is a heap of stops, the one of the least price first.
type frontier []stop

func (f frontier) Len() int           { return len(f) }
func (f frontier) Less(i, j int) bool { return f[i].price.compare(f[j].price) < 0 }
func (f frontier) Swap(i, j int)      { f[i], f[j] = f[j], f[i] }

// Push and Pop are for container/heap, which puts in and takes out at the end.
func (f *frontier) Push(x any) {
	if s, ok := x.(stop); ok {
		*f = append(*f, s)
	}
}

func (f *frontier) Pop() any {
	last := len(*f) - 1
	s := (*f)[last]
	*f = (*f)[:last]
	return s
}

// nearest takes out the first one.
func (f *frontier) nearest() stop {
	s, _ := heap.Pop(f).(stop)
	return s
}
