package convert_test

import (
	"fmt"
	"math"
	"slices"
	"strings"
	"testing"

	"tenon/api"
	"tenon/convert"
	"tenon/sample"
	"tenon/value"
)

// P9.2, example 1: the chapter's own.
func TestChainExample(t *testing.T) {
	for _, back := range []bool{false, true} {
		second := plain(2, 3)
		if back {
			second = both(2, 3)
		}
		r := made(t, plain(1, 2), second, dear(1, 3, 3))
		mustChain(t, r, 1, 3, 1, 2)
		mustLack(t, r, 3, 1)
		if back {
			mustChain(t, r, 3, 2, -2)
			mustReach(t, r, 3, 2, 3)
		} else {
			mustLack(t, r, 3, 2)
			mustReach(t, r, 3, 3)
		}
	}
}

// P9.2: chains of no ways, of one, of several; up and down, forward and back.
func TestChainWays(t *testing.T) {
	r := made(t, both(1, 2), plain(3, 2), both(3, 4), plain(5, 4), dearBoth(1000, 1, 1000))
	for n := 1; n <= 5; n++ {
		mustChain(t, r, n, n)
	}
	mustChain(t, r, 7, 7)
	mustChain(t, r, 1, 2, 1)
	mustChain(t, r, 2, 1, -1)
	mustChain(t, r, 3, 1, 2, -1)
	mustChain(t, r, 4, 1, -3, 2, -1)
	mustChain(t, r, 5, 1, 4, -3, 2, -1)
	mustChain(t, r, 5, 1000, 4, -3, 2, -1, -5)
	mustChain(t, r, 1000, 2, 5, 1)
	for _, way := range [][2]int{{2, 3}, {1, 3}, {4, 5}, {2, 4}, {1000, 3}, {1, 7}, {7, 1}, {1000, 999}} {
		mustLack(t, r, way[0], way[1])
	}
	mustReach(t, r, 1, 1, 2, 1000)
	mustReach(t, r, 2, 1, 2, 1000)
	mustReach(t, r, 5, 1, 2, 3, 4, 5, 1000)
	mustReach(t, r, 1000, 1, 2, 1000)
	mustReach(t, r, 7, 7)
}

// P9.2: a name, versions that can be, a chain: the errors in this order.
func TestChainWrong(t *testing.T) {
	r := made(t, both(1, 2), both(2, 1000))
	wrong := []int{math.MinInt, -1, 0, api.MaxVersion + 1, math.MaxInt}
	for _, name := range sample.BadNames() {
		for _, n := range append(wrong, 1, 2) {
			if l, e := r.Chain(name, n, 3-n); len(l) != 0 || e != api.ErrName {
				t.Errorf("Chain(%q, %d): %d, %d", name, n, l, e)
			}
			if l, e := r.Versions(name, n); len(l) != 0 || e != api.ErrName {
				t.Errorf("Versions(%q, %d): %d, %d", name, n, l, e)
			}
		}
	}
	for _, class := range []string{"p", "nobody"} {
		for _, n := range wrong {
			for _, way := range [][2]int{{n, 1}, {1, n}, {n, n}, {n, -n}, {1000, n}, {n, 999}} {
				if l, e := r.Chain(class, way[0], way[1]); len(l) != 0 || e != api.ErrArg {
					t.Errorf("Chain(%s, %d): %d, %d", class, way, l, e)
				}
			}
			if l, e := r.Versions(class, n); len(l) != 0 || e != api.ErrArg {
				t.Errorf("Versions(%s, %d): %d, %d", class, n, l, e)
			}
		}
	}
	for _, class := range append(sample.GoodNames(), "p1", "q") {
		if l, e := r.Chain(class, 1, 2); len(l) != 0 || e != api.ErrChain {
			t.Errorf("Chain(%s): %d, %d", class, l, e)
		}
		if l, e := r.Chain(class, 2, 2); len(l) != 0 || e != api.OK {
			t.Errorf("Chain(%s): %d, %d", class, l, e)
		}
		if l, e := r.Versions(class, 2); !slices.Equal(l, []int{2}) || e != api.OK {
			t.Errorf("Versions(%s): %d, %d", class, l, e)
		}
	}
}

// P9.2: a class's chains go by its own converters alone.
func TestChainOfAClass(t *testing.T) {
	q := func(from, to int) api.Converter { return with(0, script{class: "q", from: from, to: to}) }
	r := made(t, plain(1, 2), q(2, 3), q(1, 2), plain(3, 4))
	mustLack(t, r, 1, 3)
	mustLack(t, r, 1, 4)
	mustReach(t, r, 1, 1, 2)
	if l, e := r.Chain("q", 1, 3); !slices.Equal(l, []int{3, 2}) || e != api.OK {
		t.Error(l, e)
	}
	if l, e := r.Versions("q", 1); !slices.Equal(l, []int{1, 2, 3}) || e != api.OK {
		t.Error(l, e)
	}
}

// P9.5: of all chains the one that costs least, of several the one with the fewest ways, of several the one whose versions are lower at the first place at which they differ.
func TestLeastChain(t *testing.T) {
	for _, x := range []struct {
		name     string
		l        []api.Converter
		from, to int
		want     []int
	}{
		{"less by more ways", []api.Converter{dear(1, 2, 4), plain(1, 3), plain(3, 4), plain(4, 2)}, 1, 2, []int{2, 3, 4}},
		{"less by a higher version", []api.Converter{plain(1, 2), dear(2, 9, 2), plain(1, 8), plain(8, 9)}, 1, 9, []int{3, 4}},
		{"as much by fewer ways", []api.Converter{plain(1, 3), plain(3, 4), plain(4, 2), dear(1, 2, 3)}, 1, 2, []int{4}},
		{"as much by fewer ways and higher versions", []api.Converter{plain(1, 2), plain(2, 3), plain(3, 9), dear(1, 8, 2), plain(8, 9)}, 1, 9, []int{4, 5}},
		{"as much by fewer ways, the last of which costs more", []api.Converter{dear(1, 3, 2), plain(3, 4), plain(4, 2), plain(1, 5), dear(5, 2, 3)}, 1, 2, []int{4, 5}},
		{"as much by fewer ways, the first of which costs more", []api.Converter{plain(1, 3), plain(3, 4), dear(4, 2, 2), dear(1, 5, 3), plain(5, 2)}, 1, 2, []int{4, 5}},
		{"as much by as many: lower", []api.Converter{plain(1, 4), plain(4, 9), plain(1, 3), plain(3, 9), plain(1, 5), plain(5, 9)}, 1, 9, []int{3, 4}},
		{"lower at the first place, higher at the second", []api.Converter{plain(1, 3), plain(3, 4), plain(4, 9), plain(1, 2), plain(2, 8), plain(8, 9)}, 1, 9, []int{4, 5, 6}},
		{"lower at the second place", []api.Converter{plain(1, 2), plain(2, 8), plain(8, 9), plain(2, 7), plain(7, 9), plain(1, 3), plain(3, 4), plain(4, 9)}, 1, 9, []int{1, 4, 5}},
		{"lower, though the first way costs more", []api.Converter{plain(1, 3), dear(3, 9, 5), dear(1, 2, 5), plain(2, 9)}, 1, 9, []int{3, 4}},
		{"lower, though the last way costs more", []api.Converter{dear(1, 3, 5), plain(3, 9), plain(1, 2), dear(2, 9, 5)}, 1, 9, []int{3, 4}},
		{"versions as numbers, not as texts", []api.Converter{plain(1, 10), plain(10, 3), plain(1, 9), plain(9, 3)}, 1, 3, []int{3, 4}},
		{"down", []api.Converter{plain(9, 5), plain(5, 1), plain(9, 4), plain(4, 1)}, 9, 1, []int{3, 4}},
		{"back as cheap as forward", []api.Converter{dearBoth(9, 2, 3), plain(1, 2), dear(1, 3, 2), dear(3, 9, 2)}, 1, 9, []int{2, -1}},
		{"back is lower", []api.Converter{both(9, 2), both(2, 1), plain(1, 3), plain(3, 9)}, 1, 9, []int{-2, -1}},
		{"back costs less", []api.Converter{dear(1, 9, 1000), dearBoth(9, 500, 499), dearBoth(500, 1, 500)}, 1, 9, []int{-3, -2}},
		{"a ring on the way", []api.Converter{plain(1, 2), plain(2, 3), plain(3, 1), plain(3, 4), plain(4, 2)}, 1, 4, []int{1, 2, 4}},
		{"a ring of two", []api.Converter{both(2, 1), plain(1, 3)}, 2, 3, []int{1, 2}},
		{"1000 and 1000", []api.Converter{dear(1, 2, 1000), dear(2, 3, 1000), dear(1, 4, 999), dear(4, 3, 1000)}, 1, 3, []int{3, 4}},
	} {
		mustChain(t, made(t, x.l...), x.from, x.to, x.want...)
		if t.Failed() {
			t.Fatal(x.name)
		}
		for turn := range len(x.l) { // whichever came first
			l := slices.Concat(x.l[turn:], x.l[:turn])
			var want []int
			for _, n := range x.want {
				at := (max(n, -n)-1-turn+len(l))%len(l) + 1
				if n < 0 {
					at = -at
				}
				want = append(want, at)
			}
			mustChain(t, made(t, l...), x.from, x.to, want...)
		}
	}
}

// P9.5: the longest chain, and all ways of a great class.
func TestGreatClass(t *testing.T) {
	r := new(convert.Registry)
	for n := 1; n < api.MaxVersion; n++ {
		mustAdd(t, r, dearBoth(n, n+1, 1+n%2*999), n)
	}
	up, e := r.Chain("p", 1, api.MaxVersion)
	down, f := r.Chain("p", api.MaxVersion, 1)
	if len(up) != 999 || len(down) != 999 || e != api.OK || f != api.OK {
		t.Fatal(len(up), len(down), e, f)
	}
	for i := range up {
		if up[i] != i+1 || down[998-i] != -up[i] {
			t.Fatal(i, up[i], down[998-i])
		}
	}
	l, e := r.Versions("p", 500)
	if len(l) != 1000 || !slices.IsSorted(l) || l[0] != 1 || l[999] != 1000 || e != api.OK {
		t.Error(len(l), e)
	}
	x, e := r.Convert(sample.Record("p", 1000), 1)
	var want []string
	for n := api.MaxVersion; n > 1; n-- {
		want = append(want, fmt.Sprintf("%d-%d", n, n-1))
	}
	if !value.Same(x, sample.Record("p", 1, sample.Field("way", strings.Join(want, " ")))) || e != api.OK {
		t.Error(told(x), e)
	}
}

// P9.6: what is taken up later changes a chain only for a lesser one.
func TestChainsTakenUpLater(t *testing.T) {
	r := made(t, plain(1, 3), dear(3, 9, 3))
	for i, x := range []struct {
		c    api.Converter
		want []int
	}{
		{dear(1, 9, 5), []int{1, 2}},                                     // more
		{dear(1, 4, 2), []int{1, 2}},                                     // leads nowhere yet
		{dear(4, 9, 2), []int{1, 2}},                                     // as much by as many, but higher
		{dear(1, 2, 2), []int{1, 2}},                                     // leads nowhere yet
		{dear(2, 9, 2), []int{6, 7}},                                     // as much by as many, and lower
		{plain(2, 1), []int{6, 7}},                                       // a ring
		{plain(3, 5), []int{6, 7}},                                       // leads nowhere yet
		{plain(5, 6), []int{6, 7}},                                       // leads nowhere yet
		{plain(6, 9), []int{6, 7}},                                       // as much by more ways
		{with(0, script{class: "q", from: 1, to: 9}), []int{6, 7}},       // another class
		{dearBoth(9, 7, 2), []int{6, 7}},                                 // leads nowhere yet
		{plain(1, 7), []int{14, -13}},                                    // less
		{dear(7, 8, 2), []int{14, -13}},                                  // leads on elsewhere
		{plain(1, 1000), []int{14, -13}},                                 // leads nowhere yet
		{dear(1000, 9, 2), []int{14, -13}},                               // as much by as many, but higher
		{with(partial, script{from: 5, to: 9}), []int{14, -13}},          // as much by more ways
		{with(partial, script{from: 3, to: 8}), []int{14, -13}},          // leads nowhere yet
		{with(partial+costed, script{from: 8, to: 9}), []int{14, -13}},   // as much by more ways
		{with(partial, script{from: 1, to: 6}), []int{21, 11}},           // less
		{with(partial, script{from: 1, to: 10}), []int{21, 11}},          // leads nowhere yet
		{with(partial, script{from: 10, to: 9}), []int{21, 11}},          // as much by as many, but higher
		{with(reversible+costed, script{from: 9, to: 5}), []int{21, 11}}, // the way back is there
		{with(partial, script{from: 1, to: 5}), []int{24, 18}},           // as much by as many, and lower
	} {
		n, e := r.Add(x.c)
		if (e != api.OK || n == 0) && e != api.ErrThere {
			t.Fatal(i, n, e)
		}
		mustChain(t, r, 1, 9, x.want...)
		if t.Failed() {
			t.Fatal(i)
		}
	}
}
