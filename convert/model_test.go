package convert_test

import (
	"fmt"
	"math/rand"
	"slices"
	"testing"

	"tenon/api"
	"tenon/convert"
)

// model is a Registry in plain: a list of ways, of which chains are looked for by going all of them.
type model struct {
	ways []modelWay
	sets []int // abilities, by number
}

type modelWay struct {
	class                  string
	from, to, cost, number int
}

// modelChain is a chain, and the versions that it goes through, the first one among them.
type modelChain struct {
	cost              int
	numbers, versions []int
}

func (m *model) has(class string, from, to int) bool {
	return slices.ContainsFunc(m.ways, func(w modelWay) bool { return w.class == class && w.from == from && w.to == to })
}

func (m *model) add(class string, from, to, cost, set int) (int, api.Errno) {
	if set&costed == 0 {
		cost = 1
	}
	switch {
	case from < 1 || to < 1 || from > 1000 || to > 1000 || from == to || cost < 1 || cost > 1000:
		return 0, api.ErrArg
	case m.has(class, from, to), set&reversible != 0 && m.has(class, to, from):
		return 0, api.ErrThere
	}
	m.sets = append(m.sets, set)
	n := len(m.sets)
	m.ways = append(m.ways, modelWay{class, from, to, cost, n})
	if set&reversible != 0 {
		m.ways = append(m.ways, modelWay{class, to, from, cost, -n})
	}
	return n, api.OK
}

// lesser tells whether one chain comes ahead of another one between the same versions.
func (c *modelChain) lesser(d *modelChain) bool {
	if c.cost != d.cost {
		return c.cost < d.cost
	}
	if len(c.numbers) != len(d.numbers) {
		return len(c.numbers) < len(d.numbers)
	}
	return slices.Compare(c.versions, d.versions) < 0
}

func (c *modelChain) with(w modelWay) *modelChain {
	return &modelChain{c.cost + w.cost, append(slices.Clone(c.numbers), w.number), append(slices.Clone(c.versions), w.to)}
}

// walked goes all chains that come to no version twice, and tells the least to each version.
func (m *model) walked(class string, from int) map[int]*modelChain {
	best := map[int]*modelChain{}
	var walk func(c *modelChain)
	walk = func(c *modelChain) {
		at := c.versions[len(c.versions)-1]
		if best[at] == nil || c.lesser(best[at]) {
			best[at] = c
		}
		for _, w := range m.ways {
			if w.class == class && w.from == at && !slices.Contains(c.versions, w.to) {
				walk(c.with(w))
			}
		}
	}
	walk(&modelChain{versions: []int{from}})
	return best
}

// settled tells the same, for more ways than can all be walked: chains are made longer until none becomes lesser.
func (m *model) settled(class string, from int) map[int]*modelChain {
	best := map[int]*modelChain{from: {versions: []int{from}}}
	for changed := true; changed; {
		changed = false
		for _, w := range m.ways {
			if w.class != class || best[w.from] == nil {
				continue
			}
			c := best[w.from].with(w)
			if best[w.to] == nil || c.lesser(best[w.to]) {
				best[w.to], changed = c, true
			}
		}
	}
	return best
}

// hold holds a Registry against the chains of the model from a version.
func hold(t *testing.T, r *convert.Registry, class string, from, most int, best map[int]*modelChain) {
	t.Helper()
	var reached []int
	for to := 1; to <= most; to++ {
		l, e := r.Chain(class, from, to)
		if c := best[to]; c == nil && (e != api.ErrChain || len(l) != 0) || c != nil && (e != api.OK || !slices.Equal(l, c.numbers)) {
			t.Fatalf("Chain(%s, %d, %d): %d, %d, want %v", class, from, to, l, e, c)
		}
		if best[to] != nil {
			reached = append(reached, to)
		}
	}
	if l, e := r.Versions(class, from); e != api.OK || !slices.Equal(l, reached) {
		t.Fatalf("Versions(%s, %d): %d, %d, want %d", class, from, l, e, reached)
	}
}

// P9.1, P9.2, P9.5, P9.6: converters taken up one by one, as the model has it; each chain changes only for a lesser one.
func TestModel(t *testing.T) {
	r := rand.New(rand.NewSource(9))
	for round := range 300 {
		var g convert.Registry
		var m model
		most, costs := 2+r.Intn(5), 1+r.Intn(4)
		before := map[[2]int]*modelChain{}
		for range 4 + r.Intn(16) {
			class := []string{"p", "p", "p", "q"}[r.Intn(4)]
			from, to, cost, set := r.Intn(most+1), 1+r.Intn(most), r.Intn(costs+1), r.Intn(8)
			want, why := m.add(class, from, to, cost, set)
			n, e := g.Add(exactly(set, script{class: class, from: from, to: to, cost: cost}))
			if n != want || e != why {
				t.Fatalf("round %d: Add(%s, %d, %d, %d, %d): %d, %d, want %d, %d", round, class, from, to, cost, set, n, e, want, why)
			}
			for from := 1; from <= most; from++ {
				best := m.walked("p", from)
				hold(t, &g, "p", from, most, best)
				hold(t, &g, "p", from, most, m.settled("p", from))
				hold(t, &g, "q", from, most, m.walked("q", from))
				for to := range most + 1 {
					way := [2]int{from, to}
					was, is := before[way], best[to]
					if was != nil && (is == nil || !slices.Equal(is.numbers, was.numbers) && !is.lesser(was)) {
						t.Fatal("a chain has become another one that is not lesser:", was, is)
					}
					before[way] = is
				}
			}
		}
		for n := range len(m.sets) + 2 {
			has, e := g.Has(n)
			if there := n > 0 && n <= len(m.sets); there && (has != m.sets[n-1] || e != api.OK) || !there && (has != 0 || e != api.ErrArg) {
				t.Fatal(n, has, e)
			}
		}
	}
}

// P9.5: greater ones, with many ties and with few.
func TestModelOfMany(t *testing.T) {
	r := rand.New(rand.NewSource(99))
	for _, x := range []struct{ most, adds, costs int }{{12, 60, 1}, {12, 60, 3}, {30, 100, 1}, {30, 100, 2}, {30, 300, 1000}, {60, 1000, 3}, {100, 150, 2}, {1000, 1500, 5}} {
		var g convert.Registry
		var m model
		for range x.adds {
			from, to, cost, set := 1+r.Intn(x.most), 1+r.Intn(x.most), 1+r.Intn(x.costs), r.Intn(8)
			want, why := m.add("p", from, to, cost, set)
			if n, e := g.Add(exactly(set, script{class: "p", from: from, to: to, cost: cost})); n != want || e != why {
				t.Fatal(n, e, want, why)
			}
		}
		for range min(x.most, 12) {
			from := 1 + r.Intn(x.most)
			hold(t, &g, "p", from, x.most, m.settled("p", from))
		}
	}
}

// P9.4: whatever chain is told, converting goes by it: each converter once, in its order, and no other one.
func TestModelOfCalls(t *testing.T) {
	r := rand.New(rand.NewSource(4))
	for range 100 {
		var g convert.Registry
		var log []string
		var way [][2]int
		most := 3 + r.Intn(4)
		for range 15 {
			from, to, set := 1+r.Intn(most), 1+r.Intn(most), r.Intn(8)
			if _, e := g.Add(with(set, script{from: from, to: to, cost: 1 + r.Intn(3), log: &log})); e == api.OK {
				way = append(way, [2]int{from, to})
			}
		}
		for range 20 {
			from, to := 1+r.Intn(most), 1+r.Intn(most)
			chain, e := g.Chain("p", from, to)
			if e != api.OK {
				continue
			}
			var want []string
			for _, n := range chain {
				at := way[max(n, -n)-1]
				says := fmt.Sprintf(" %d-%d", at[0], at[1])
				has, _ := g.Has(max(n, -n))
				switch {
				case n < 0:
					want = append(want, "Back"+says)
				case has&partial != 0:
					want = append(want, "Takes"+says, "Convert"+says)
				default:
					want = append(want, "Convert"+says)
				}
			}
			log = nil
			x, e := g.Convert(rec(fmt.Sprintf("p/%d{a: 1}", from)), to)
			if e != api.OK || x.Version != to || x.Class != "p" {
				t.Fatal(told(x), e)
			}
			mustLog(t, &log, want...)
		}
	}
}
