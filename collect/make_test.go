package collect_test

import (
	"fmt"
	"slices"
	"testing"

	"tenon/api"
	"tenon/collect"
	"tenon/heap"
	"tenon/sample"
)

func refs(ids ...api.Ref) []api.Ref { return ids }

// upTo is 1 to n.
func upTo(n int) []api.Ref {
	var l []api.Ref
	for i := range n {
		l = append(l, api.Ref(i+1))
	}
	return l
}

// less is a list without those of another one.
func less(l, gone []api.Ref) []api.Ref {
	return slices.DeleteFunc(slices.Clone(l), func(id api.Ref) bool { return slices.Contains(gone, id) })
}

// rootName is the name that the tests give a root.
func rootName(id api.Ref) string { return fmt.Sprint("r", id) }

// stored is a heap of records by their identities, from 1 on, that name others, with roots.
func stored(t *testing.T, roots []api.Ref, names ...[]api.Ref) *heap.Heap {
	t.Helper()
	x := api.Image{Room: api.MaxHeap, Next: api.Ref(len(names) + 1)}
	for i, l := range names {
		x.Records = append(x.Records, api.Stored{ID: api.Ref(i + 1), Record: sample.Naming(l...)})
	}
	h := load(t, x)
	for _, id := range roots {
		root(t, h, id)
	}
	return h
}

func load(t *testing.T, x api.Image) *heap.Heap {
	t.Helper()
	h, e := heap.Load(x)
	if h == nil || e != api.OK {
		t.Fatal("Load", e)
	}
	return h
}

// add, put, remove, root and unroot change a heap, which must go.
func add(t *testing.T, h *heap.Heap, names ...api.Ref) api.Ref {
	t.Helper()
	id, e := h.Add(sample.Naming(names...))
	if e != api.OK {
		t.Fatal("Add", names, e)
	}
	return id
}

func put(t *testing.T, h *heap.Heap, id api.Ref, names ...api.Ref) {
	t.Helper()
	mustGo(t, "Put", h.Put(id, sample.Naming(names...)))
}

func remove(t *testing.T, h *heap.Heap, ids ...api.Ref) {
	t.Helper()
	mustGo(t, "Remove", h.Remove(ids))
}

func root(t *testing.T, h *heap.Heap, id api.Ref) {
	t.Helper()
	mustGo(t, "SetRoot", h.SetRoot(rootName(id), id))
}

func unroot(t *testing.T, h *heap.Heap, id api.Ref) {
	t.Helper()
	mustGo(t, "SetRoot to none", h.SetRoot(rootName(id), 0))
}

func mustGo(t *testing.T, name any, e api.Errno) {
	t.Helper()
	if e != api.OK {
		t.Fatal(name, e)
	}
}

func must(t *testing.T, name any, got, want api.Errno) {
	t.Helper()
	if got != want {
		t.Errorf("%v: %d, want %d", name, got, want)
	}
}

// watch has a function watch a heap: its number.
func watch(t *testing.T, h *heap.Heap, tells func(id api.Ref)) int {
	t.Helper()
	n, e := h.Watch(tells)
	mustGo(t, "Watch", e)
	return n
}

// begin is a cycle, which must be begun.
func begin(t *testing.T, h *heap.Heap) *collect.Cycle {
	t.Helper()
	c, e := collect.Begin(h)
	if c == nil || e != api.OK {
		t.Fatal("Begin", c, e)
	}
	return c
}

// begun is a cycle that went on by so many records.
func begun(t *testing.T, h *heap.Heap, steps int) *collect.Cycle {
	t.Helper()
	c := begin(t, h)
	for range steps {
		if _, e := c.Step(1); e != api.OK {
			t.Fatal("Step", e)
		}
	}
	return c
}

// enough is how many steps are enough.
func enough(h *heap.Heap) int { return 2*h.Len() + 1 }

func mustStep(t *testing.T, c *collect.Cycle, n int, want bool) {
	t.Helper()
	if done, e := c.Step(n); done != want || e != api.OK {
		t.Errorf("Step(%d): %v, %d, want %v", n, done, e, want)
	}
}

func mustNotStep(t *testing.T, c *collect.Cycle, n int, want api.Errno) {
	t.Helper()
	if done, e := c.Step(n); done || e != want {
		t.Errorf("Step(%d): %v, %d, want %d", n, done, e, want)
	}
}

// mustTake makes a call that must take just these away, and change nothing else.
func mustTake(t *testing.T, name any, h *heap.Heap, call func() ([]api.Ref, api.Errno), want ...api.Ref) {
	t.Helper()
	ahead := h.Image()
	l, e := call()
	if !slices.Equal(l, want) || e != api.OK {
		t.Errorf("%v: %v, %d, want %v", name, some(l), e, some(want))
	}
	mustBeLess(t, name, h, ahead, want)
}

// mustBeLess is that a heap stands as it stood, but for those that are gone.
func mustBeLess(t *testing.T, name any, h *heap.Heap, ahead api.Image, gone []api.Ref) {
	t.Helper()
	ahead.Records = slices.DeleteFunc(ahead.Records, func(s api.Stored) bool {
		_, goes := slices.BinarySearch(gone, s.ID)
		return goes
	})
	if !sample.SameImages(h.Image(), ahead) {
		t.Errorf("%v: the heap has %v and %v, want %v", name, some(h.IDs()), h.Roots(), some(gone))
	}
}

// mustRefuse makes a call that must answer none, an error, and change nothing.
func mustRefuse(t *testing.T, name any, h *heap.Heap, call func() ([]api.Ref, api.Errno), want api.Errno) {
	t.Helper()
	ahead := h.Image()
	if l, e := call(); len(l) > 0 || e != want {
		t.Errorf("%v: %v, %d, want %d", name, some(l), e, want)
	}
	mustBeLess(t, name, h, ahead, nil)
}

// mustBeOver is that a cycle is over: every call tells so, and the heap stays as it is.
func mustBeOver(t *testing.T, h *heap.Heap, c *collect.Cycle) {
	t.Helper()
	for range 2 {
		mustNotStep(t, c, 1, api.ErrState)
		mustNotStep(t, c, 1<<20, api.ErrState)
		mustNotStep(t, c, 0, api.ErrArg)
		mustRefuse(t, "End of what is over", h, c.End, api.ErrState)
		must(t, "Stop of what is over", c.Stop(), api.ErrState)
	}
}

// mustNotBeWatched is that a heap has no watchers.
func mustNotBeWatched(t *testing.T, h *heap.Heap) {
	t.Helper()
	last := watch(t, h, func(api.Ref) {})
	mustGo(t, "Unwatch", h.Unwatch(last))
	for n := 1; n < last; n++ {
		must(t, fmt.Sprint("Unwatch(", n, ")"), h.Unwatch(n), api.ErrArg)
	}
}

func mustLive(t *testing.T, h *heap.Heap, want ...api.Ref) {
	t.Helper()
	if l := collect.Live(h); !slices.Equal(l, want) {
		t.Errorf("Live: %v, want %v", some(l), some(want))
	}
}

// some is a list as it is read, if it is not too long.
func some(l []api.Ref) any {
	if len(l) > 30 {
		return []any{len(l), "of them", l[:20]}
	}
	return l
}

// sweep is Sweep as a call without arguments.
func sweep(h *heap.Heap) func() ([]api.Ref, api.Errno) {
	return func() ([]api.Ref, api.Errno) { return collect.Sweep(h) }
}

// reached is what is reached from some records, themselves too, as plainly as it can be found: whoever is named is added, until nothing comes.
func reached(h *heap.Heap, from []api.Ref) []api.Ref {
	in := map[api.Ref]bool{}
	for _, id := range from {
		in[id] = true
	}
	for again := true; again; {
		again = false
		for _, s := range h.Image().Records {
			for _, id := range sample.RefsOf(s.Record) {
				if in[s.ID] && id != 0 && !in[id] {
					in[id], again = true, true
				}
			}
		}
	}
	return slices.DeleteFunc(h.IDs(), func(id api.Ref) bool { return !in[id] })
}

// live is what the roots reach.
func live(h *heap.Heap) []api.Ref {
	var from []api.Ref
	for _, r := range h.Roots() {
		from = append(from, r.ID)
	}
	return reached(h, from)
}

func garbage(h *heap.Heap) []api.Ref { return less(h.IDs(), live(h)) }
