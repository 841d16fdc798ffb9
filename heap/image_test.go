package heap_test

import (
	"math"
	"testing"

	"tenon/api"
	"tenon/heap"
	"tenon/sample"
)

// P13.1: which rooms there can be; a new heap is empty, and gives 1 next.
func TestNew(t *testing.T) {
	for _, room := range []int{math.MinInt, -1, 0, api.MaxHeap + 1, math.MaxInt} {
		if h, e := heap.New(room); h != nil || e != api.ErrArg {
			t.Error(room, h, e)
		}
	}
	for _, room := range []int{1, 2, 100, api.MaxHeap - 1, api.MaxHeap} {
		h := empty(t, room)
		mustImage(t, room, h, api.Image{Room: room, Next: 1})
		if h.Len() != 0 || len(h.IDs()) != 0 || len(h.Roots()) != 0 {
			t.Error(h.Len(), h.IDs(), h.Roots())
		}
		for _, id := range []api.Ref{0, 1, 2, lastNext, math.MaxUint64} {
			mustBeGone(t, h, id)
		}
	}
}

// P13.1, P13.2: there is room for just so many.
func TestRoom(t *testing.T) {
	for _, room := range []int{1, 2, 3, api.MaxHeap} {
		h := empty(t, room)
		for i := range room {
			if id, e := h.Add(sample.Naming(api.Ref(i))); id != api.Ref(i+1) || e != api.OK {
				t.Fatal(room, i, id, e)
			}
		}
		mustStay(t, room, h, func() {
			if id, e := h.Add(sample.Naming()); id != 0 || e != api.ErrFull {
				t.Error(room, id, e)
			}
		})
		if h.Len() != room || len(h.IDs()) != room {
			t.Error(h.Len(), room)
		}
		must(t, room, h.Drop(api.Ref(room)), api.OK)
		if id, e := h.Add(sample.Naming()); id != api.Ref(room+1) || e != api.OK {
			t.Error(room, id, e)
		}
	}
}

// P13.1: an image that can be is loaded, and told again as it was.
func TestLoad(t *testing.T) {
	for _, x := range sample.Images() {
		if !sample.ImageCanBe(x.Image) {
			t.Fatal(x.Name, "can't be")
		}
		h := load(t, x.Image)
		mustImage(t, x.Name, h, x.Image)
		mustImage(t, x.Name, load(t, h.Image()), x.Image)
		mustImage(t, x.Name, h.Clone(), x.Image)
		if h.Len() != len(x.Image.Records) {
			t.Error(x.Name, h.Len())
		}
		for _, s := range x.Image.Records {
			mustGet(t, h, s.ID, s.Record)
		}
	}
}

// P13.1: one that can't be is ErrForm, whatever it is.
func TestLoadWrong(t *testing.T) {
	for _, x := range sample.WrongImages() {
		if sample.ImageCanBe(x.Image) {
			t.Error(x.Name, "can be")
		}
		if h, e := heap.Load(x.Image); h != nil || e != api.ErrForm {
			t.Error(x.Name, h, e)
		}
	}
}

// P13.1: what is loaded goes on at Next, with its names known.
func TestLoadedGoesOn(t *testing.T) {
	h := load(t, api.Image{Room: 5, Next: 90, Records: []api.Stored{{ID: 3, Record: sample.Naming(70, 0)}, {ID: 20, Record: sample.Naming(20, 3)}, {ID: 70, Record: sample.Naming()}}, Roots: []api.Root{{Name: "a", ID: 3}}})
	mustName(t, h, 3, 70)
	mustName(t, h, 20, 3, 20)
	mustBeNamed(t, h, 3, 20)
	mustBeNamed(t, h, 70, 3)
	must(t, "Drop", h.Drop(70), api.ErrNamed)
	must(t, "Drop", h.Drop(20), api.OK)
	must(t, "Drop of a root's", h.Drop(3), api.ErrNamed)
	add(t, h, sample.Naming(70))
	mustRefs(t, "IDs", h.IDs(), api.OK, 3, 70, 90)
}

// P13.1: whoever watches a heap watches neither a clone nor what is loaded of its image; the numbers of watchers begin anew there.
func TestWatchersStay(t *testing.T) {
	h := ring(t)
	watch(t, h)
	w := watch(t, h)
	for _, g := range []*heap.Heap{h.Clone(), load(t, h.Image())} {
		must(t, "Drop", g.Drop(4), api.OK)
		must(t, "Put", g.Put(1, sample.Naming()), api.OK)
		must(t, "SetRoot", g.SetRoot("a", 1), api.OK)
		must(t, "Unwatch", g.Unwatch(w.number), api.ErrArg)
		if n, e := g.Watch(func(api.Ref) { t.Error("told") }); n != 1 || e != api.OK {
			t.Error(n, e)
		}
	}
	add(t, h, sample.Naming())
	w.must(t, 5)
}

// P13.1: a heap and its clone know nothing of one another.
func TestCloneApart(t *testing.T) {
	for _, x := range sample.Images() {
		h := load(t, x.Image)
		g := h.Clone()
		for range 2 {
			for _, id := range g.IDs() {
				must(t, "Put", g.Put(id, sample.Record("other", 7)), api.OK)
				must(t, "SetRoot", g.SetRoot("r10000", id), api.OK)
			}
			for _, r := range g.Roots() {
				must(t, "SetRoot", g.SetRoot(r.Name, 0), api.OK)
			}
			must(t, "Remove", g.Remove(g.IDs()), api.OK)
			if x.Image.Next < lastNext {
				add(t, g, sample.Naming())
			}
			mustImage(t, x.Name, h, x.Image)
			for _, s := range x.Image.Records { // h knows still who is named
				for _, id := range sample.RefsOf(s.Record) {
					if id != 0 && id != s.ID {
						must(t, x.Name, h.Drop(id), api.ErrNamed)
					}
				}
			}
			if x.Image.Room == api.MaxHeap {
				break
			}
			g, h = h, h.Clone() // now the first one is changed
		}
	}
}

// What no call of the package made answers whatever it likes, but it answers.
func TestZeroEnds(t *testing.T) {
	var h heap.Heap
	h.Add(sample.Naming())
	h.Add(nil)
	h.Get(1)
	h.Put(1, sample.Naming())
	h.Drop(1)
	h.Remove(nil)
	h.SetRoot("a", 1)
	h.SetRoot("a", 0)
	h.Roots()
	h.IDs()
	h.Len()
	h.Names(0)
	h.Namers(0)
	h.Object(0)
	n, _ := h.Watch(func(api.Ref) {})
	h.Unwatch(n)
	h.Image()
	g := h.Clone()
	g.Add(sample.Naming())
	g.SetRoot("a", 0)
	g.Image()
}
