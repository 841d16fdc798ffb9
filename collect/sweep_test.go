package collect_test

import (
	"slices"
	"testing"

	"tenon/api"
	"tenon/collect"
	"tenon/heap"
	"tenon/sample"
)

// shape is a heap of records by their identities, from 1 on, with what is live there.
type shape struct {
	name  string
	roots []api.Ref
	names [][]api.Ref
	live  []api.Ref
}

// shapes is the edges that the chapter names.
func shapes() []shape {
	return []shape{
		{"empty", nil, nil, nil},
		{"no roots", nil, [][]api.Ref{refs(2), nil, refs(3)}, nil},
		{"one root", refs(1), [][]api.Ref{nil}, refs(1)},
		{"all roots", refs(1, 2, 3), [][]api.Ref{nil, nil, nil}, refs(1, 2, 3)},
		{"all live", refs(3), [][]api.Ref{nil, refs(1), refs(2)}, refs(1, 2, 3)},
		{"all but a root", refs(2), [][]api.Ref{refs(2), nil, refs(2)}, refs(2)},
		{"root of several", refs(1, 2, 3), [][]api.Ref{refs(2), nil, refs(2), refs(2)}, refs(1, 2, 3)},
		{"root of itself", refs(2), [][]api.Ref{refs(1), refs(2, 2)}, refs(2)},
		{"root that several roots name", refs(1, 2, 3), [][]api.Ref{refs(3), refs(3), refs(3, 4), nil, refs(3)}, refs(1, 2, 3, 4)},
		{"garbage of itself", refs(1), [][]api.Ref{nil, refs(2)}, refs(1)},
		{"ring of two", refs(1), [][]api.Ref{nil, refs(3), refs(2)}, refs(1)},
		{"ring of three", refs(1), [][]api.Ref{nil, refs(4), refs(2), refs(3)}, refs(1)},
		{"ring that a root reaches", refs(1), [][]api.Ref{refs(4), refs(3), refs(4), refs(2)}, refs(1, 2, 3, 4)},
		{"ring with a root", refs(3), [][]api.Ref{refs(2), refs(3), refs(1)}, refs(1, 2, 3)},
		{"a ring reached and one not", refs(1), [][]api.Ref{refs(2), refs(1), refs(4), refs(3)}, refs(1, 2)},
		{"garbage names the live", refs(1), [][]api.Ref{refs(2), nil, refs(1), refs(2, 3)}, refs(1, 2)},
		{"garbage ring names a live ring", refs(1), [][]api.Ref{refs(2), refs(1), refs(4, 1), refs(3, 2)}, refs(1, 2)},
		{"ring through both", refs(1), [][]api.Ref{refs(2), refs(4), nil, refs(1, 3), refs(4, 5)}, refs(1, 2, 3, 4)},
		{"two ways", refs(1), [][]api.Ref{refs(2, 3), refs(4), refs(4), nil, refs(4)}, refs(1, 2, 3, 4)},
		{"nobody", refs(1), [][]api.Ref{refs(0, 0), refs(0)}, refs(1)},
		{"backward", refs(5), [][]api.Ref{nil, refs(1), refs(2), refs(3), refs(4), refs(5)}, refs(1, 2, 3, 4, 5)},
	}
}

// P15.1, P15.5, P15.6: what is live, and what Sweep takes away; a second time there is nothing.
func TestShapes(t *testing.T) {
	for _, x := range shapes() {
		h := stored(t, x.roots, x.names...)
		mustLive(t, h, x.live...)
		mustTake(t, x.name, h, sweep(h), less(h.IDs(), x.live)...)
		mustLive(t, h, x.live...)
		mustTake(t, x.name+" again", h, sweep(h))
		if !slices.Equal(live(h), x.live) {
			t.Error(x.name, "the test is wrong")
		}
	}
}

// P15.1: what one layer below can keep, whatever that is.
func TestImages(t *testing.T) {
	for _, x := range sample.Images() {
		h := load(t, x.Image)
		want := live(h)
		mustLive(t, h, want...)
		mustTake(t, x.Name, h, sweep(h), less(h.IDs(), want)...)
	}
}

// P15.1: a reference is a name wherever it lies in a record, and a root is one under whatever name, under several too.
func TestLiveDeep(t *testing.T) {
	h := stored(t, nil, nil, nil, nil, nil)
	inner := sample.Record("in", 2, sample.Field("x", api.Ref(2)))
	r := sample.Record("out", 1, sample.Field("a", api.List{api.List{api.Ref(3)}, api.Dict{sample.Field("y", inner)}}), sample.Field("b", "4"), sample.Field("c", int64(4)))
	mustGo(t, "Put", h.Put(1, r))
	mustGo(t, "SetRoot", h.SetRoot("a", 1))
	mustGo(t, "SetRoot", h.SetRoot("b", 1))
	mustLive(t, h, 1, 2, 3)
	mustTake(t, "two names", h, sweep(h), 4)
	mustGo(t, "SetRoot", h.SetRoot("a", 0))
	mustLive(t, h, 1, 2, 3)
	mustTake(t, "one name", h, sweep(h))
	mustGo(t, "SetRoot", h.SetRoot("b", 3))
	mustLive(t, h, 3)
	mustTake(t, "another one's", h, sweep(h), 1, 2)
	mustGo(t, "SetRoot", h.SetRoot("b", 0))
	mustTake(t, "no name", h, sweep(h), 3)
}

// telling has a watcher write down what it is told, and hold the heap against what it must be behind the call, at the first already.
func telling(t *testing.T, h *heap.Heap, behind int) *[]api.Ref {
	t.Helper()
	var l []api.Ref
	watch(t, h, func(id api.Ref) {
		l = append(l, id)
		if h.Len() != behind {
			t.Error("told of", id, "with", h.Len(), "there, want", behind)
		}
	})
	return &l
}

// P15.1, P15.2: all garbage goes in one call of Remove, rising, whether Sweep or End takes it; of none nobody is told.
func TestOneCall(t *testing.T) {
	for _, x := range shapes() {
		for _, ends := range []bool{false, true} {
			h := stored(t, x.roots, x.names...)
			want := less(h.IDs(), x.live)
			call := sweep(h)
			if ends {
				c := begin(t, h)
				mustStep(t, c, enough(h), true)
				call = c.End
			}
			told := telling(t, h, len(x.live))
			mustTake(t, x.name, h, call, want...)
			if !slices.Equal(*told, want) {
				t.Error(x.name, "told", *told, "want", want)
			}
		}
	}
}

// P15.1: within a watcher Live tells what is so behind the change; Sweep can take nothing away there: heap's error, of none no call and so OK.
func TestSweepWithin(t *testing.T) {
	h := stored(t, refs(1), refs(2), nil)
	var want []api.Ref
	calls := 0
	watch(t, h, func(api.Ref) {
		calls++
		mustLive(t, h, want...)
		e := api.ErrPanic
		if len(want) == h.Len() {
			e = api.OK
		}
		mustRefuse(t, "Sweep", h, sweep(h), e)
	})
	want = refs(1, 2)
	put(t, h, 2, 1)
	add(t, h)
	want = refs(1, 2, 3)
	put(t, h, 1, 2, 3)
	want = refs(1, 3)
	put(t, h, 1, 3)
	remove(t, h, 2)
	want = nil
	unroot(t, h, 1)
	if calls != 6 {
		t.Error(calls)
	}
	mustGo(t, "Unwatch", h.Unwatch(1))
	mustTake(t, "Sweep", h, sweep(h), 1, 3)
}

// P15.1: neither call changes what the heap gives next, nor who watches.
func TestSweepLeaves(t *testing.T) {
	h := stored(t, refs(1), nil, refs(1), nil)
	told := telling(t, h, 1)
	collect.Live(h)
	mustTake(t, "Sweep", h, sweep(h), 2, 3)
	if !slices.Equal(*told, refs(2, 3)) {
		t.Error(*told)
	}
	mustGo(t, "Unwatch", h.Unwatch(1))
	if id := add(t, h); id != 4 {
		t.Error(id)
	}
	if n := watch(t, h, func(api.Ref) {}); n != 2 {
		t.Error(n)
	}
}

// P15.3, P15.6: whoever panics when he is told changes nothing of it.
func TestTakenWhilePanics(t *testing.T) {
	for _, thrown := range sample.Thrown() {
		for _, ends := range []bool{false, true} {
			h := stored(t, refs(1), nil, refs(3), refs(2), refs(4))
			watch(t, h, func(api.Ref) { panic(thrown) })
			c := begin(t, h)
			watch(t, h, func(api.Ref) { panic(thrown) })
			call := sweep(h)
			if ends {
				call = c.End
			}
			put(t, h, 1, 4)
			mustStep(t, c, enough(h), true)
			mustTake(t, ends, h, call, 2, 3)
		}
	}
}
