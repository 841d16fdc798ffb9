package index_test

import (
	"math/rand"
	"slices"
	"strings"
	"testing"

	"tenon/api"
	"tenon/sample"
)

// P16.4, P16.5: as many identities as can be under one key, put and dropped in whatever order.
func TestManyOfOneKey(t *testing.T) {
	r := rand.New(rand.NewSource(1))
	x := fresh(t, byTag())
	for _, i := range r.Perm(api.MaxHeap) {
		mustPut(t, x, aged(api.Ref(i+1), nil))
	}
	mustFind(t, x, nil, upTo(api.MaxHeap)...)
	l := all(t, x)
	if len(l) != api.MaxHeap || !slices.IsSortedFunc(l, func(a, b api.Found) int { return int(a.ID) - int(b.ID) }) {
		t.Error(len(l))
	}
	left := upTo(api.MaxHeap)
	for _, i := range r.Perm(api.MaxHeap)[:api.MaxHeap-10] {
		mustDrop(t, x, api.Ref(i+1), true)
		at, _ := slices.BinarySearch(left, api.Ref(i+1))
		left = slices.Delete(left, at, at+1)
	}
	mustFind(t, x, nil, left...)
}

// P16.5, P16.8: as many pairs as can be, of keys that come in whatever order, are shown in order, from anywhere to anywhere.
func TestManyPairs(t *testing.T) {
	r := rand.New(rand.NewSource(2))
	x := fresh(t, byTag())
	numbers := r.Perm(api.MaxNodes)
	for i := range api.MaxHeap {
		var keys []any
		for _, n := range numbers[4*i : 4*i+4] {
			keys = append(keys, int64(n))
		}
		mustPut(t, x, teller(api.Ref(i+1), keys...))
	}
	for range 50 {
		from, to := r.Intn(api.MaxNodes), r.Intn(api.MaxNodes)
		at := from
		e := x.Range(int64(from), int64(to), false, false, func(f api.Found) bool {
			if f.Key != int64(at) {
				t.Fatal(f, at)
			}
			at++
			return true
		})
		if at != max(from, to+1) || e != api.OK {
			t.Error(from, to, at, e)
		}
	}
	for at, n := range numbers[:100] {
		mustFind(t, x, int64(n), api.Ref(at/4+1))
	}
	c := x.Clone()
	for i := range api.MaxHeap / 2 {
		mustDrop(t, x, api.Ref(2*i+1), true)
	}
	if x.Len() != api.MaxNodes/2 || c.Len() != api.MaxNodes {
		t.Error(x.Len(), c.Len())
	}
}

// P16.2: an object tells as many keys as can be, of which many are the same; great keys are told apart by their ends.
func TestManyKeys(t *testing.T) {
	x := fresh(t, byTag())
	keys := ints(0, api.MaxItems)
	rand.New(rand.NewSource(3)).Shuffle(len(keys), func(i, j int) { keys[i], keys[j] = keys[j], keys[i] })
	mustPut(t, x, teller(1, keys...))
	mustKeep(t, x, 1, ints(0, api.MaxItems)...)
	for i := range keys {
		keys[i] = int64(i % 7)
	}
	mustPut(t, x, teller(1, keys...))
	mustKeep(t, x, 1, ints(0, 7)...)

	text := strings.Repeat("x", api.MaxText-1)
	mustPut(t, x, teller(1, text+"b", sample.Numbered(api.MaxNodes-1, "b"), text+"a", sample.Within(api.MaxDepth, "b"), sample.Numbered(api.MaxNodes-1, "a"), sample.Within(api.MaxDepth, "a")))
	mustPut(t, x, teller(2, text+"b", sample.Numbered(api.MaxNodes-1, "b"), sample.Within(api.MaxDepth, "b")))
	mustKeep(t, x, 1, text+"a", text+"b", sample.Numbered(api.MaxNodes-1, "a"), sample.Numbered(api.MaxNodes-1, "b"), sample.Within(api.MaxDepth, "a"), sample.Within(api.MaxDepth, "b"))
	for _, key := range []any{text + "b", sample.Numbered(api.MaxNodes-1, "b"), sample.Within(api.MaxDepth, "b")} {
		mustFind(t, x, key, 1, 2)
	}
	for _, key := range []any{text + "a", sample.Numbered(api.MaxNodes-1, "a"), sample.Within(api.MaxDepth, "a")} {
		mustFind(t, x, key, 1)
	}
	mustFind(t, x, text+"c")
}
