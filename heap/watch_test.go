package heap_test

import (
	"fmt"
	"math"
	"runtime"
	"slices"
	"testing"

	"tenon/api"
	"tenon/heap"
	"tenon/sample"
)

// P13.6: numbers from 1 on, none of them given again; nobody to be told is wrong.
func TestWatchNumbers(t *testing.T) {
	h := ring(t)
	if n, e := h.Watch(nil); n != 0 || e != api.ErrArg {
		t.Error(n, e)
	}
	for _, n := range []int{math.MinInt, -1, 0, 1, 2, math.MaxInt} {
		must(t, n, h.Unwatch(n), api.ErrArg)
	}
	for want := 1; want <= 5; want++ {
		if w := watch(t, h); w.number != want {
			t.Error(w.number, want)
		}
	}
	if n, e := h.Watch(nil); n != 0 || e != api.ErrArg {
		t.Error(n, e)
	}
	for _, n := range []int{5, 2, 4} {
		must(t, n, h.Unwatch(n), api.OK)
		must(t, n, h.Unwatch(n), api.ErrArg)
	}
	if w := watch(t, h); w.number != 6 {
		t.Error(w.number)
	}
	for _, n := range []int{1, 3, 6} {
		must(t, n, h.Unwatch(n), api.OK)
	}
	if w := watch(t, h); w.number != 7 {
		t.Error(w.number)
	}
	mustImage(t, "nothing has changed", h, ring(t).Image())
}

// P13.6: what each call tells, behind its change.
func TestTold(t *testing.T) {
	h := empty(t, 9)
	add(t, h, sample.Naming())
	w := watch(t, h)
	add(t, h, sample.Naming(1))
	w.must(t, 2)
	must(t, "Put", h.Put(1, sample.Naming(2)), api.OK)
	w.must(t, 1)
	must(t, "Put of the same", h.Put(1, sample.Naming(2)), api.OK)
	w.must(t, 1)
	must(t, "SetRoot", h.SetRoot("a", 2), api.OK)
	w.must(t, 0)
	must(t, "SetRoot of the same", h.SetRoot("a", 2), api.OK)
	must(t, "SetRoot of none", h.SetRoot("b", 0), api.OK)
	w.must(t)
	must(t, "SetRoot to another one", h.SetRoot("a", 1), api.OK)
	w.must(t, 0)
	must(t, "SetRoot to none", h.SetRoot("a", 0), api.OK)
	w.must(t, 0)
	add(t, h, sample.Naming(), sample.Naming(), sample.Naming())
	w.must(t, 3, 4, 5)
	must(t, "Remove of none", h.Remove(nil), api.OK)
	w.must(t)
	must(t, "Drop", h.Drop(4), api.OK)
	w.must(t, 4)
	must(t, "Remove", h.Remove([]api.Ref{5, 1, 3, 2}), api.OK)
	w.must(t, 5, 1, 3, 2)
	h.Get(1)
	h.Image()
	h.Clone()
	h.IDs()
	w.must(t)
	w.unwatch(t)
	add(t, h, sample.Naming())
	w.must(t)
}

// P13.6: a call that fails tells nobody.
func TestFailsTellNobody(t *testing.T) {
	h := load(t, api.Image{Room: 2, Next: 3, Records: sample.StoredNaming(2), Roots: sample.RootNames(api.MaxItems, 1)})
	mustStay(t, "all of it", h, func() {
		for _, x := range []struct {
			e, want api.Errno
		}{
			{second(h.Add(nil)), api.ErrNil}, {second(h.Add(sample.Naming(3))), api.ErrDangling}, {second(h.Add(sample.Naming())), api.ErrFull},
			{h.Put(3, sample.Naming()), api.ErrIdentity}, {h.Put(1, nil), api.ErrNil}, {h.Put(1, sample.Naming(3)), api.ErrDangling}, {h.Put(1, &api.Record{}), api.ErrName},
			{h.Drop(1), api.ErrNamed}, {h.Drop(3), api.ErrIdentity}, {h.Remove([]api.Ref{2, 1}), api.ErrNamed}, {h.Remove([]api.Ref{2, 2}), api.ErrArg},
			{h.SetRoot("", 1), api.ErrName}, {h.SetRoot("a", 3), api.ErrIdentity}, {h.SetRoot("a", 1), api.ErrFull},
			{second(h.Watch(nil)), api.ErrArg}, {h.Unwatch(99), api.ErrArg},
		} {
			must(t, "call", x.e, x.want)
		}
	})
}

func second[T any](_ T, e api.Errno) api.Errno { return e }

// P13.6: several are told in the order of their numbers, each change to all of them ahead of the next.
func TestOrder(t *testing.T) {
	h := ring(t)
	var l []string
	for n := 1; n <= 4; n++ {
		number, e := h.Watch(func(id api.Ref) { l = append(l, fmt.Sprint(n, ":", id)) })
		if number != n || e != api.OK {
			t.Fatal(number, e)
		}
	}
	want := func(calls ...string) {
		t.Helper()
		if !slices.Equal(l, calls) {
			t.Error(l, calls)
		}
		l = nil
	}
	add(t, h, sample.Naming())
	want("1:5", "2:5", "3:5", "4:5")
	must(t, "Unwatch", h.Unwatch(2), api.OK)
	must(t, "SetRoot", h.SetRoot("a", 5), api.OK)
	want("1:0", "3:0", "4:0")
	must(t, "Unwatch", h.Unwatch(1), api.OK)
	if n, e := h.Watch(func(id api.Ref) { l = append(l, fmt.Sprint("5:", id)) }); n != 5 || e != api.OK {
		t.Error(n, e)
	}
	must(t, "Remove", h.Remove([]api.Ref{4, 2, 1, 3}), api.OK)
	want("3:4", "4:4", "5:4", "3:2", "4:2", "5:2", "3:1", "4:1", "5:1", "3:3", "4:3", "5:3")
}

// P13.6: one function may watch several times, under several numbers.
func TestOneWatchesTwice(t *testing.T) {
	h := ring(t)
	var l []api.Ref
	tells := func(id api.Ref) { l = append(l, id) }
	a, _ := h.Watch(tells)
	b, _ := h.Watch(tells)
	must(t, "Drop", h.Drop(4), api.OK)
	if a == b || !slices.Equal(l, []api.Ref{4, 4}) {
		t.Error(a, b, l)
	}
	must(t, "Unwatch", h.Unwatch(a), api.OK)
	add(t, h, sample.Naming())
	if !slices.Equal(l, []api.Ref{4, 4, 5}) {
		t.Error(l)
	}
}

// P13.6: whatever a watcher panics with, it ends there: the others are told, it is told again the next time, and the call answers as it would have.
func TestWatcherPanics(t *testing.T) {
	for _, thrown := range sample.Thrown() {
		h := empty(t, 5)
		first := watch(t, h)
		var l []api.Ref
		for range 2 {
			h.Watch(func(id api.Ref) { l = append(l, id); panic(thrown) })
		}
		last := watch(t, h)
		want := func(calls ...api.Ref) {
			t.Helper()
			first.must(t, calls...)
			last.must(t, calls...)
			var twice []api.Ref
			for _, id := range calls {
				twice = append(twice, id, id)
			}
			if !slices.Equal(l, twice) {
				t.Errorf("%d, want %d", l, twice)
			}
			l = nil
		}
		add(t, h, sample.Naming())
		want(1)
		must(t, "Put", h.Put(1, sample.Naming(1)), api.OK)
		want(1)
		add(t, h, sample.Naming(1))
		want(2)
		must(t, "SetRoot", h.SetRoot("a", 2), api.OK)
		want(0)
		must(t, "SetRoot", h.SetRoot("a", 0), api.OK)
		want(0)
		must(t, "Remove", h.Remove([]api.Ref{2, 1}), api.OK)
		want(2, 1)
		mustImage(t, "behind all", h, api.Image{Room: 5, Next: 3})
		last.unwatch(t)
	}
}

// P13.6: what a watcher asks is so behind the change: of a Remove, behind all of it, at the first that is told already.
func TestWatcherAsks(t *testing.T) {
	h := ring(t)
	var want api.Image
	calls := 0
	h.Watch(func(api.Ref) {
		calls++
		mustImage(t, "Image", h, want)
		mustImage(t, "Clone", h.Clone(), want)
		if h.Len() != len(want.Records) || !slices.Equal(h.Roots(), want.Roots) {
			t.Error(h.Len(), h.Roots())
		}
		var ids []api.Ref
		for _, s := range want.Records {
			ids = append(ids, s.ID)
			mustGet(t, h, s.ID, s.Record)
			mustTell(t, thing(t, h, s.ID), s.ID, s.Record)
			names := slices.DeleteFunc(sample.RefsOf(s.Record), func(id api.Ref) bool { return id == 0 })
			slices.Sort(names)
			mustName(t, h, s.ID, slices.Compact(names)...)
			var namers []api.Ref
			for _, o := range want.Records {
				if slices.Contains(sample.RefsOf(o.Record), s.ID) {
					namers = append(namers, o.ID)
				}
			}
			mustBeNamed(t, h, s.ID, namers...)
		}
		mustRefs(t, "IDs", h.IDs(), api.OK, ids...)
		if r, e := h.Get(99); r != nil || e != api.ErrIdentity {
			t.Error(r, e)
		}
	})
	want = h.Image()
	want.Next, want.Records = 6, append(want.Records, api.Stored{ID: 5, Record: sample.Naming(1, 4)})
	add(t, h, sample.Naming(1, 4))
	want.Records[0].Record = sample.Record("p", 2)
	must(t, "Put", h.Put(1, sample.Record("p", 2)), api.OK)
	want.Roots = []api.Root{{Name: "top", ID: 1}}
	must(t, "SetRoot", h.SetRoot("top", 1), api.OK)
	want.Records = slices.Delete(want.Records, 1, 5)
	must(t, "Remove", h.Remove([]api.Ref{4, 5, 2, 3}), api.OK)
	want.Roots = nil
	must(t, "SetRoot", h.SetRoot("top", 0), api.OK)
	want.Records = nil
	must(t, "Drop", h.Drop(1), api.OK)
	if calls != 9 {
		t.Error(calls)
	}
}

// P13.6: a watcher can change nothing, whatever it hands in, and for whatever reason it is told; also behind one that panicked.
func TestWatcherChangesNothing(t *testing.T) {
	h := ring(t)
	calls := 0
	change := func(api.Ref) {
		calls++
		ahead := h.Image()
		for _, r := range []*api.Record{nil, sample.Naming(), sample.Naming(99), {}} {
			if id, e := h.Add(r); id != 0 || e != api.ErrPanic {
				t.Error("Add", id, e)
			}
			for _, id := range []api.Ref{0, 1, 4, 99} {
				must(t, "Put", h.Put(id, r), api.ErrPanic)
			}
		}
		for _, id := range []api.Ref{0, 1, 4, 99} {
			must(t, "Drop", h.Drop(id), api.ErrPanic)
			for _, name := range []string{"a", "b", "", "A"} {
				must(t, "SetRoot", h.SetRoot(name, id), api.ErrPanic)
			}
		}
		for _, ids := range [][]api.Ref{nil, {}, {4}, {99}, {4, 4}, {1, 2, 3, 4}} {
			must(t, "Remove", h.Remove(ids), api.ErrPanic)
		}
		for _, tells := range []func(api.Ref){nil, func(api.Ref) { t.Error("told") }} {
			if n, e := h.Watch(tells); n != 0 || e != api.ErrPanic {
				t.Error("Watch", n, e)
			}
		}
		for _, n := range []int{-1, 0, 1, 2, 3, 99} {
			must(t, "Unwatch", h.Unwatch(n), api.ErrPanic)
		}
		mustImage(t, "nothing changes", h, ahead)
	}
	h.Watch(change)
	h.Watch(func(id api.Ref) { change(id); panic("no") })
	h.Watch(change)
	must(t, "SetRoot", h.SetRoot("a", 1), api.OK)
	add(t, h, sample.Naming())
	must(t, "Put", h.Put(5, sample.Naming(5)), api.OK)
	must(t, "Remove", h.Remove([]api.Ref{5, 4}), api.OK)
	if calls != 15 {
		t.Error(calls)
	}
	for n := 1; n <= 3; n++ { // none is watching that was refused, and none is gone
		must(t, n, h.Unwatch(n), api.OK)
	}
	if w := watch(t, h); w.number != 4 {
		t.Error(w.number)
	}
	mustImage(t, "at the end", h, api.Image{Room: 5, Next: 6, Records: sample.StoredNaming(3), Roots: []api.Root{{Name: "a", ID: 1}}})
}

// P13.6: a clone that a watcher makes, and any other heap, can be changed by it, and tells its own watchers.
func TestWatcherChangesOthers(t *testing.T) {
	h, other := ring(t), empty(t, 9)
	w := watch(t, other)
	var clone *heap.Heap
	h.Watch(func(id api.Ref) {
		clone = h.Clone()
		cloned := watch(t, clone)
		must(t, "Put", clone.Put(1, sample.Naming()), api.OK)
		cloned.must(t, 1)
		add(t, other, sample.Naming())
		add(t, load(t, h.Image()), sample.Naming())
	})
	must(t, "Drop", h.Drop(4), api.OK)
	must(t, "Put", h.Put(1, sample.Naming(3)), api.OK)
	w.must(t, 1, 2)
	mustGet(t, h, 1, sample.Naming(3))
	mustGet(t, clone, 1, sample.Naming())
	add(t, clone, sample.Naming())
	mustRefs(t, "IDs", clone.IDs(), api.OK, 1, 2, 3, 5)
}

// P13.6: two heaps whose watchers change the other one: the one that is telling refuses.
func TestHeapsTellEachOther(t *testing.T) {
	a, b := empty(t, 9), empty(t, 9)
	calls := 0
	a.Watch(func(api.Ref) {
		calls++
		add(t, b, sample.Naming())
	})
	b.Watch(func(api.Ref) {
		calls++
		if id, e := a.Add(sample.Naming()); id != 0 || e != api.ErrPanic {
			t.Error(id, e)
		}
	})
	add(t, a, sample.Naming())
	if a.Len() != 1 || b.Len() != 1 || calls != 2 {
		t.Error(a.Len(), b.Len(), calls)
	}
}

// A watcher may write into what a call was handed: who is told, and what is kept, is what it was.
func TestWatcherWritesOver(t *testing.T) {
	h := ring(t)
	ids := []api.Ref{4, 2, 1, 3}
	r := sample.Naming(4)
	first := true
	h.Watch(func(api.Ref) {
		for i := range ids {
			ids[i] = 99
		}
		if first {
			sample.Spoil(r)
			first = false
		}
	})
	w := watch(t, h)
	add(t, h, r)
	ids = []api.Ref{4, 5, 2, 1, 3}
	mustGet(t, h, 5, sample.Naming(4))
	must(t, "Remove", h.Remove(ids), api.OK)
	w.must(t, 5, 4, 5, 2, 1, 3)
}

// A watcher may end the goroutine that it is called on: the heap can be changed again behind it.
func TestWatcherEnds(t *testing.T) {
	h := ring(t)
	w := watch(t, h)
	n, _ := h.Watch(func(api.Ref) { runtime.Goexit() })
	done := make(chan int)
	go func() {
		defer close(done)
		h.Drop(4)
		t.Error("goes on")
	}()
	<-done
	w.must(t, 4)
	must(t, "Unwatch", h.Unwatch(n), api.OK)
	add(t, h, sample.Naming())
	w.must(t, 5)
}
