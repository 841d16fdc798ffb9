package collect_test

import (
	"math/rand"
	"slices"
	"testing"

	"tenon/api"
	"tenon/collect"
	"tenon/heap"
	"tenon/sample"
)

// watched is a cycle, with what the chapter says of it as plainly as it can be said.
type watched struct {
	c     *collect.Cycle
	old   []api.Ref // garbage at Begin that was neither put in, nor made a root, nor reached by what was
	gone  int       // by how many records it may have gone on since Begin
	since int       // and since the last change
	done  bool      // whether it told since then that nothing is left
	over  bool
}

// world is a heap that is changed, with cycles, and watchers who use the cycles, one told ahead of all of them and one behind.
type world struct {
	t      *testing.T
	r      *rand.Rand
	h      *heap.Heap
	cycles []*watched
	behind int            // the number of the watcher behind
	within bool           // whether a watcher is being told
	did    map[string]int // how often each answer came
}

func newWorld(t *testing.T, seed int64, did map[string]int) *world {
	h, _ := heap.New(12)
	w := &world{t: t, r: rand.New(rand.NewSource(seed)), h: h, did: did}
	watch(t, h, func(id api.Ref) {
		w.changed(id)
		w.use()
	})
	w.behind = watch(t, h, func(api.Ref) { w.use() })
	return w
}

// changed is that a record, or the roots (0), changed: what it reaches now is spared by no promise.
func (w *world) changed(id api.Ref) {
	reach := live(w.h)
	if id != 0 {
		reach = reached(w.h, refs(id))
	}
	for _, x := range w.cycles {
		x.since, x.done, x.old = 0, false, less(x.old, reach)
	}
}

// use has a watcher make some calls of a cycle, or none.
func (w *world) use() {
	if len(w.cycles) == 0 || w.r.Intn(4) > 0 {
		return
	}
	w.within = true
	x := w.cycles[w.r.Intn(len(w.cycles))]
	for range 1 + w.r.Intn(4) {
		w.call(x)
	}
	w.within = false
}

// call makes some call of a cycle.
func (w *world) call(x *watched) {
	w.t.Helper()
	switch w.r.Intn(24) {
	case 0:
		w.stop(x)
	case 1, 2, 3, 4:
		w.end(x)
	case 5:
		if c, e := collect.Begin(w.h); w.within {
			w.must("Begin within", c == nil && e == api.ErrPanic)
		} else {
			w.must("Begin", c != nil && e == api.OK)
			w.must("Stop at once", c.Stop() == api.OK)
		}
	default:
		w.step(x, []int{-1, 0, 1, 1, 1, 1, 1, 2, 2, 3, 30}[w.r.Intn(11)])
	}
}

// must counts what came, which must have been right.
func (w *world) must(name string, right bool) {
	w.t.Helper()
	w.did[name]++
	if !right {
		w.t.Error(name, "within a watcher:", w.within, shown(w.h.Image()))
	}
}

// shown is an image as it is read: whom each record names, and the roots.
func shown(x api.Image) any {
	l := []any{x.Roots}
	for _, s := range x.Records {
		l = append(l, s.ID, sample.RefsOf(s.Record))
	}
	return l
}

func (w *world) step(x *watched, n int) {
	w.t.Helper()
	done, e := x.c.Step(n)
	switch {
	case n < 1:
		w.must("Step wrong", !done && e == api.ErrArg)
		return
	case x.over:
		w.must("Step over", !done && e == api.ErrState)
		return
	}
	x.gone, x.since = x.gone+n, x.since+n
	w.must("Step", e == api.OK)
	if x.since >= enough(w.h) {
		w.must("Step enough", done)
	}
	if x.done {
		w.must("Step done", done)
	}
	if x.gone < len(live(w.h)) {
		w.must("Step early", !done)
	}
	x.done = done
}

func (w *world) end(x *watched) {
	w.t.Helper()
	was, ahead, may := *x, w.h.Image(), garbage(w.h) // while End takes away, watchers use the cycle, too
	must := less(x.old, less(x.old, w.h.IDs()))      // of those that are there
	l, e := x.c.End()
	switch {
	case was.over:
		w.must("End over", e == api.ErrState)
	case was.done && w.within:
		w.must("End within", e == api.ErrPanic)
	case was.done:
		w.must("End done", e == api.OK)
	case was.gone < len(ahead.Records)-len(may):
		w.must("End early", e == api.ErrState)
	case w.within:
		w.must("End", e == api.ErrPanic || e == api.ErrState)
	default:
		w.must("End", e == api.OK || e == api.ErrState)
	}
	mustBeLess(w.t, "End", w.h, ahead, l)
	if e != api.OK {
		w.must("End of none", len(l) == 0)
		return
	}
	x.over = true
	w.must("garbage alone", slices.IsSorted(l) && len(less(l, may)) == 0)
	w.must("all old garbage", len(less(must, l)) == 0)
	if len(must) > 0 {
		w.did["old garbage goes"]++
	}
}

func (w *world) stop(x *watched) {
	w.t.Helper()
	want := api.OK
	if x.over {
		want = api.ErrState
	}
	w.must("Stop", x.c.Stop() == want)
	x.over = true
}

// begin begins one more cycle, with the watcher behind it again; of too many one is stopped.
func (w *world) begin() {
	w.t.Helper()
	if len(w.cycles) > 3 {
		least := max(0, slices.IndexFunc(w.cycles, func(x *watched) bool { return x.over }))
		w.cycles[least].c.Stop()
		w.cycles = slices.Delete(w.cycles, least, least+1)
	}
	w.cycles = append(w.cycles, &watched{c: begin(w.t, w.h), old: garbage(w.h)})
	mustGo(w.t, "Unwatch", w.h.Unwatch(w.behind))
	w.behind = watch(w.t, w.h, func(api.Ref) { w.use() })
}

// id is some identity, mostly of one that is there.
func (w *world) id() api.Ref {
	if ids := w.h.IDs(); len(ids) > 0 && w.r.Intn(9) > 0 {
		return ids[w.r.Intn(len(ids))]
	}
	return api.Ref(w.r.Intn(40))
}

// names is whom some record names.
func (w *world) names() []api.Ref {
	var l []api.Ref
	for range w.r.Intn(4) {
		l = append(l, w.id())
	}
	return l
}

// change changes the heap, if it can.
func (w *world) change() {
	w.t.Helper()
	switch w.r.Intn(11) {
	case 0, 1, 2, 3, 4:
		w.h.Add(sample.Naming(w.names()...))
	case 5, 6:
		w.h.Put(w.id(), sample.Naming(w.names()...))
	case 7:
		w.h.Drop(w.id())
	case 8:
		all := garbage(w.h)
		w.h.Remove(all[w.r.Intn(len(all)+1):])
	default:
		w.h.SetRoot(string(rune('a'+w.r.Intn(3))), w.id()*api.Ref(w.r.Intn(2)))
	}
}

// close stops all, and nobody but the two watchers watches.
func (w *world) close() {
	w.t.Helper()
	for _, x := range w.cycles {
		x.c.Stop()
		mustBeOver(w.t, w.h, x.c)
	}
	mustGo(w.t, "Unwatch", w.h.Unwatch(1))
	mustGo(w.t, "Unwatch", w.h.Unwatch(w.behind))
	mustNotBeWatched(w.t, w.h)
}

// P15.1 to P15.6: whatever is changed, in whatever order, by whom ever, with several cycles at once, each call answers what the chapter says.
func TestModel(t *testing.T) {
	did := map[string]int{}
	for seed := range int64(1500) {
		w := newWorld(t, seed, did)
		for range 120 {
			switch n := w.r.Intn(20); {
			case n < 7:
				w.change()
			case n < 9:
				w.begin()
			case n == 9 && w.r.Intn(20) == 0:
				mustTake(t, "Sweep", w.h, sweep(w.h), garbage(w.h)...)
			case len(w.cycles) > 0:
				w.call(w.cycles[w.r.Intn(len(w.cycles))])
			}
			mustLive(t, w.h, live(w.h)...)
			if t.Failed() {
				t.Fatal("seed", seed)
			}
		}
		w.close()
	}
	for _, name := range []string{"Begin", "Begin within", "Step", "Step wrong", "Step over", "Step enough", "Step done", "Step early", "End", "End over", "End done", "End early", "End within", "Stop", "old garbage goes"} {
		if did[name] < 200 {
			t.Error("too little was done:", name, did[name])
		}
	}
	t.Log(did)
}
