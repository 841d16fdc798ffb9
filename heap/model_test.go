package heap_test

import (
	"fmt"
	"maps"
	"math/rand"
	"slices"
	"testing"

	"tenon/api"
	"tenon/heap"
	"tenon/names"
	"tenon/sample"
	"tenon/value"
)

// model is what the chapter says of a heap, as plainly as it can be said: all is asked of the records themselves.
type model struct {
	room    int
	next    api.Ref
	records map[api.Ref]*api.Record
	roots   map[string]api.Ref
	told    []api.Ref // what a watcher must be told of
}

func (m *model) image() api.Image {
	x := api.Image{Room: m.room, Next: m.next}
	for _, id := range slices.Sorted(maps.Keys(m.records)) {
		x.Records = append(x.Records, api.Stored{ID: id, Record: m.records[id]})
	}
	for _, name := range slices.Sorted(maps.Keys(m.roots)) {
		x.Roots = append(x.Roots, api.Root{Name: name, ID: m.roots[name]})
	}
	return x
}

func (m *model) names(id api.Ref) []api.Ref {
	l := slices.DeleteFunc(sample.RefsOf(m.records[id]), func(id api.Ref) bool { return id == 0 })
	slices.Sort(l)
	return slices.Compact(l)
}

func (m *model) namers(id api.Ref) []api.Ref {
	var l []api.Ref
	for _, other := range slices.Sorted(maps.Keys(m.records)) {
		if slices.Contains(m.names(other), id) {
			l = append(l, other)
		}
	}
	return l
}

// rule is what is wrong with a record.
func (m *model) rule(r *api.Record) api.Errno {
	if r == nil {
		return api.ErrNil
	}
	if _, e := value.Check(r); e != api.OK {
		return e
	}
	for _, id := range sample.RefsOf(r) {
		if m.records[id] == nil && id != 0 {
			return api.ErrDangling
		}
	}
	return api.OK
}

func (m *model) keep(id api.Ref, r *api.Record) {
	own, _ := value.Copy(r)
	m.records[id] = own.(*api.Record)
	m.told = append(m.told, id)
}

func (m *model) add(r *api.Record) (api.Ref, api.Errno) {
	if e := m.rule(r); e != api.OK {
		return 0, e
	}
	if len(m.records) == m.room || m.next == lastNext {
		return 0, api.ErrFull
	}
	id := m.next
	m.next++
	m.keep(id, r)
	return id, api.OK
}

func (m *model) put(id api.Ref, r *api.Record) api.Errno {
	if m.records[id] == nil {
		return api.ErrIdentity
	}
	if e := m.rule(r); e != api.OK {
		return e
	}
	m.keep(id, r)
	return api.OK
}

func (m *model) remove(ids []api.Ref) api.Errno {
	for _, id := range ids {
		if m.records[id] == nil {
			return api.ErrIdentity
		}
	}
	for i, id := range ids {
		if slices.Contains(ids[:i], id) {
			return api.ErrArg
		}
	}
	for _, id := range ids {
		for _, root := range m.roots {
			if root == id {
				return api.ErrNamed
			}
		}
		for _, namer := range m.namers(id) {
			if !slices.Contains(ids, namer) {
				return api.ErrNamed
			}
		}
	}
	for _, id := range ids {
		delete(m.records, id)
		m.told = append(m.told, id)
	}
	return api.OK
}

func (m *model) setRoot(name string, id api.Ref) api.Errno {
	switch was, had := m.roots[name]; {
	case !names.Is(name):
		return api.ErrName
	case id == 0 && !had, id != 0 && id == was:
		return api.OK
	case id == 0:
		delete(m.roots, name)
	case m.records[id] == nil:
		return api.ErrIdentity
	default:
		m.roots[name] = id
	}
	m.told = append(m.told, 0)
	return api.OK
}

// world is a model, with heaps that must all go as it does, each with a watcher.
type world struct {
	t     *testing.T
	r     *rand.Rand
	m     *model
	heaps []*heap.Heap
	told  []*watching
	done  map[string]int // how often each answer came
}

func newWorld(t *testing.T, seed int64) *world {
	w := &world{t: t, r: rand.New(rand.NewSource(seed)), done: map[string]int{}}
	w.m = &model{room: 1 + w.r.Intn(8), next: 1, records: map[api.Ref]*api.Record{}, roots: map[string]api.Ref{}}
	if w.r.Intn(8) == 0 {
		w.m.next = lastNext - api.Ref(w.r.Intn(9))
	}
	w.join(load(t, w.m.image()))
	return w
}

// join takes one more heap in; of too many the oldest leaves.
func (w *world) join(h *heap.Heap) {
	w.t.Helper()
	w.heaps = append(w.heaps, h)
	w.told = append(w.told, watch(w.t, h))
	if len(w.heaps) > 3 {
		w.heaps, w.told = w.heaps[1:], w.told[1:]
	}
}

// id is some identity, mostly of one that is there.
func (w *world) id() api.Ref {
	if ids := slices.Sorted(maps.Keys(w.m.records)); len(ids) > 0 && w.r.Intn(5) > 0 {
		return ids[w.r.Intn(len(ids))]
	}
	return w.m.next - api.Ref(w.r.Intn(3)) + 1
}

// record is some record, which mostly can be.
func (w *world) record() *api.Record {
	r := sample.Record([]string{"p", "q"}[w.r.Intn(2)], 1+w.r.Intn(3))
	for _, name := range []string{"a", "b", "c"} {
		switch w.r.Intn(6) {
		case 0, 1:
			r.Fields = append(r.Fields, sample.Field(name, w.id()))
		case 2:
			r.Fields = append(r.Fields, sample.Field(name, sample.Roomy(api.List{w.id(), api.Dict{sample.Field("x", w.id())}, sample.Record("in", 1, sample.Field("y", w.id()), sample.Field("z", api.Ref(0)))})))
		case 3:
			r.Fields = append(r.Fields, sample.Field(name, sample.Roomy([]any{nil, true, "text", []byte{1}, api.List{}}[w.r.Intn(5)])))
		}
	}
	switch w.r.Intn(25) {
	case 0:
		return nil
	case 1:
		r.Version = 0
	case 2:
		r.Fields = append(r.Fields, sample.Field("d", []any{7, sample.Nobody(), sample.ListRing(), api.List{nil, func() {}}}[w.r.Intn(4)]))
	}
	return r
}

func (w *world) ids() []api.Ref {
	all := slices.Sorted(maps.Keys(w.m.records))
	w.r.Shuffle(len(all), func(i, j int) { all[i], all[j] = all[j], all[i] })
	if w.r.Intn(4) > 0 {
		return all[:w.r.Intn(len(all)+1)]
	}
	if w.r.Intn(2) > 0 {
		return append(all, w.id())
	}
	return all
}

// call makes one call on the model and on all heaps, which must answer alike.
func (w *world) call(name string, want func() (api.Ref, api.Errno), got func(h *heap.Heap) (api.Ref, api.Errno)) {
	w.t.Helper()
	id, e := want()
	w.done[fmt.Sprint(name, " ", int(e))]++
	for i, h := range w.heaps {
		if x, f := got(h); x != id || f != e {
			w.t.Errorf("heap %d, %s: %d, %d, want %d, %d", i, name, x, f, id, e)
		}
	}
}

// step makes a call, and writes over what was handed in.
func (w *world) step() {
	w.t.Helper()
	switch w.r.Intn(12) {
	case 0, 1, 2, 3:
		r := w.record()
		w.call("Add", func() (api.Ref, api.Errno) { return w.m.add(r) }, func(h *heap.Heap) (api.Ref, api.Errno) { return h.Add(r) })
		sample.Spoil(r)
	case 4, 5:
		id, r := w.id(), w.record()
		w.call("Put", func() (api.Ref, api.Errno) { return 0, w.m.put(id, r) }, func(h *heap.Heap) (api.Ref, api.Errno) { return 0, h.Put(id, r) })
		sample.Spoil(r)
	case 6, 7:
		id := w.id()
		w.call("Drop", func() (api.Ref, api.Errno) { return 0, w.m.remove([]api.Ref{id}) }, func(h *heap.Heap) (api.Ref, api.Errno) { return 0, h.Drop(id) })
	case 8:
		ids := w.ids()
		w.call("Remove", func() (api.Ref, api.Errno) { return 0, w.m.remove(ids) }, func(h *heap.Heap) (api.Ref, api.Errno) { return 0, h.Remove(ids) })
	case 9, 10:
		name, id := []string{"a", "b", "c", "", "A"}[w.r.Intn(5)], w.id()*api.Ref(w.r.Intn(2))
		w.call("SetRoot", func() (api.Ref, api.Errno) { return 0, w.m.setRoot(name, id) }, func(h *heap.Heap) (api.Ref, api.Errno) { return 0, h.SetRoot(name, id) })
	case 11:
		h := w.heaps[w.r.Intn(len(w.heaps))]
		if w.r.Intn(2) == 0 {
			w.join(h.Clone())
		} else {
			w.join(load(w.t, h.Image()))
		}
	}
}

// look holds all that can be told against the model.
func (w *world) look() {
	w.t.Helper()
	want := w.m.image()
	if !sample.ImageCanBe(want) {
		w.t.Error("the model can't be")
	}
	for i, h := range w.heaps {
		mustImage(w.t, i, h, want)
		mustRefs(w.t, "IDs", h.IDs(), api.OK, slices.Sorted(maps.Keys(w.m.records))...)
		if h.Len() != len(w.m.records) || !slices.Equal(h.Roots(), want.Roots) {
			w.t.Error(h.Len(), h.Roots())
		}
		for id, r := range w.m.records {
			mustGet(w.t, h, id, r)
			mustName(w.t, h, id, w.m.names(id)...)
			mustBeNamed(w.t, h, id, w.m.namers(id)...)
			mustTell(w.t, thing(w.t, h, id), id, r)
		}
		w.told[i].must(w.t, w.m.told...)
	}
	w.m.told = nil
}

// P13.7, P13.8, P13.9, P13.10: whatever is called, in whatever order, the heap is as the chapter says, and so are those that came of its images, and its clones.
func TestModel(t *testing.T) {
	done := map[string]int{}
	for seed := range int64(500) {
		w := newWorld(t, seed)
		for range 60 {
			ahead := w.m.image()
			w.step()
			mustDiffer(t, ahead, w.m.image(), w.m.told)
			w.look()
			if t.Failed() {
				t.Fatal("seed", seed)
			}
		}
		for name, n := range w.done {
			done[name] += n
		}
	}
	for _, name := range []string{"Add 0", "Add 1", "Add 6", "Add 7", "Add 2", "Add 131", "Add 50", "Put 0", "Put 7", "Put 130", "Put 131", "Drop 0", "Drop 130", "Drop 132", "Remove 0", "Remove 1", "Remove 130", "Remove 132", "SetRoot 0", "SetRoot 8", "SetRoot 130"} {
		if done[name] < 20 {
			t.Error("too little was done:", name, done[name])
		}
	}
}

// mustDiffer is P13.9: two images differ only where a watcher was told of, and Next by what came.
func mustDiffer(t *testing.T, ahead, behind api.Image, told []api.Ref) {
	t.Helper()
	was := map[api.Ref]*api.Record{}
	for _, s := range ahead.Records {
		was[s.ID] = s.Record
	}
	for _, s := range behind.Records {
		if !slices.Contains(told, s.ID) && !value.Same(was[s.ID], s.Record) {
			t.Error("nobody was told of", s.ID)
		}
		delete(was, s.ID)
	}
	for id := range was {
		if !slices.Contains(told, id) {
			t.Error("nobody was told that this is gone:", id)
		}
	}
	if !slices.Equal(ahead.Roots, behind.Roots) != slices.Contains(told, 0) {
		t.Error("roots:", told)
	}
	if slices.Contains(told, ahead.Next) != (ahead.Next != behind.Next) {
		t.Error("Next:", ahead.Next, behind.Next, told)
	}
}
