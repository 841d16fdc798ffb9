package heap_test

import (
	"math"
	"testing"

	"tenon/api"
	"tenon/heap"
	"tenon/sample"
)

// P13.3: who can go: whoever neither a root nor a record that stays names. 1 to 3 are a ring, 4 names itself and 2, 5 names 4 and nobody it, 6 is a root's.
func TestRemove(t *testing.T) {
	x := api.Image{Room: 9, Next: 8, Records: append(sample.StoredNaming(3), api.Stored{ID: 4, Record: sample.Naming(4, 2)}, api.Stored{ID: 5, Record: sample.Naming(4)}, api.Stored{ID: 6, Record: sample.Naming(0)}), Roots: []api.Root{{Name: "top", ID: 6}}}
	for _, c := range []struct {
		name string
		ids  []api.Ref
		want api.Errno
	}{
		{"nil", nil, api.OK}, {"none", []api.Ref{}, api.OK},
		{"nobody names it", []api.Ref{5}, api.OK}, {"two, the one that names ahead", []api.Ref{5, 4}, api.OK}, {"two, the one that is named ahead", []api.Ref{4, 5}, api.OK},
		{"a ring and who names it", []api.Ref{3, 5, 1, 4, 2}, api.OK}, {"rising", []api.Ref{1, 2, 3, 4, 5}, api.OK},
		{"a ring that is named from outside", []api.Ref{1, 2, 3}, api.ErrNamed}, {"one of a ring", []api.Ref{1}, api.ErrNamed}, {"two of a ring", []api.Ref{3, 1}, api.ErrNamed},
		{"itself and one outside", []api.Ref{4}, api.ErrNamed}, {"all but one that names", []api.Ref{1, 2, 3, 4}, api.ErrNamed}, {"nobody names it, and one that is named", []api.Ref{5, 1}, api.ErrNamed},
		{"a root's", []api.Ref{6}, api.ErrNamed}, {"a root's and one that can go", []api.Ref{5, 6}, api.ErrNamed}, {"all", []api.Ref{1, 2, 3, 4, 5, 6}, api.ErrNamed},
		{"one that is not there", []api.Ref{7}, api.ErrIdentity}, {"Next", []api.Ref{8}, api.ErrIdentity}, {"0", []api.Ref{0}, api.ErrIdentity}, {"beyond", []api.Ref{math.MaxUint64}, api.ErrIdentity},
		{"one there, one not", []api.Ref{5, 7}, api.ErrIdentity}, {"one not, one there", []api.Ref{7, 5}, api.ErrIdentity}, {"a root's, one not there", []api.Ref{6, 7}, api.ErrIdentity},
		{"twice", []api.Ref{5, 5}, api.ErrArg}, {"twice, apart", []api.Ref{5, 4, 5}, api.ErrArg}, {"a root's twice", []api.Ref{6, 6}, api.ErrArg}, {"named, and another one twice", []api.Ref{1, 5, 5}, api.ErrArg},
		{"twice, and one not there", []api.Ref{5, 5, 7}, api.ErrIdentity}, {"twice not there", []api.Ref{7, 7}, api.ErrIdentity},
	} {
		h := load(t, x)
		if c.want != api.OK {
			mustStay(t, c.name, h, func() { must(t, c.name, h.Remove(c.ids), c.want) })
			if len(c.ids) == 1 {
				mustStay(t, c.name, h, func() { must(t, c.name, h.Drop(c.ids[0]), c.want) })
			}
			continue
		}
		w := watch(t, h)
		must(t, c.name, h.Remove(c.ids), api.OK)
		w.must(t, c.ids...)
		mustImage(t, c.name, h, without(x, c.ids...))
		for _, id := range c.ids {
			mustBeGone(t, h, id)
		}
	}
}

// without is an image without some records.
func without(x api.Image, ids ...api.Ref) api.Image {
	gone := map[api.Ref]bool{}
	for _, id := range ids {
		gone[id] = true
	}
	var l []api.Stored
	for _, s := range x.Records {
		if !gone[s.ID] {
			l = append(l, s)
		}
	}
	x.Records = l
	return x
}

// P13.3: what is no longer named can go: behind a Put, behind the namer's own going, behind SetRoot, one name after the other.
func TestNamedNoMore(t *testing.T) {
	h := empty(t, 9)
	add(t, h, sample.Naming(), sample.Naming(1, 1), sample.Naming(1))
	must(t, "two name it", h.Drop(1), api.ErrNamed)
	must(t, "Put", h.Put(2, sample.Naming(2)), api.OK)
	must(t, "one names it", h.Drop(1), api.ErrNamed)
	must(t, "Put anew", h.Put(3, sample.Naming(0, 1, 1)), api.OK)
	must(t, "still one", h.Drop(1), api.ErrNamed)
	must(t, "Drop of the namer", h.Drop(3), api.OK)
	must(t, "SetRoot", h.SetRoot("a", 1), api.OK)
	must(t, "SetRoot", h.SetRoot("b", 1), api.OK)
	must(t, "two roots", h.Drop(1), api.ErrNamed)
	must(t, "SetRoot", h.SetRoot("a", 0), api.OK)
	must(t, "one root", h.Drop(1), api.ErrNamed)
	must(t, "SetRoot to another one", h.SetRoot("b", 2), api.OK)
	must(t, "now it can", h.Drop(1), api.OK)
	must(t, "that one can't", h.Drop(2), api.ErrNamed)
	must(t, "SetRoot", h.SetRoot("b", 0), api.OK)
	must(t, "now that can", h.Drop(2), api.OK)
	mustImage(t, "at the end", h, api.Image{Room: 9, Next: 4})
}

// P13.3: of a record that is named many times over by one, deep within, one Put takes all that away.
func TestNamedDeep(t *testing.T) {
	deep := sample.Record("a", 1, sample.Field("a", sample.Within(api.MaxDepth-1, api.Ref(1))), sample.Field("b", sample.Naming(1, 1)), sample.Field("c", api.Dict{sample.Field("x", api.Ref(1))}))
	h := empty(t, 2)
	add(t, h, sample.Naming(), deep)
	must(t, "Drop", h.Drop(1), api.ErrNamed)
	must(t, "the same anew", h.Put(2, deep), api.OK)
	must(t, "Drop", h.Drop(1), api.ErrNamed)
	must(t, "Put", h.Put(2, sample.Naming()), api.OK)
	must(t, "Drop", h.Drop(1), api.OK)
}

// P13.3: the greatest heap, all in one ring, goes at once, and none of it alone.
func TestRemoveAll(t *testing.T) {
	h := load(t, api.Image{Room: api.MaxHeap, Next: api.MaxHeap + 1, Records: sample.StoredNaming(api.MaxHeap)})
	ids := h.IDs()
	must(t, "all but one", h.Remove(ids[1:]), api.ErrNamed)
	for i := 0; i < len(ids); i += 97 {
		must(t, ids[i], h.Drop(ids[i]), api.ErrNamed)
	}
	must(t, "one twice", h.Remove(append(ids, ids[0])), api.ErrArg)
	must(t, "all", h.Remove(ids), api.OK)
	mustImage(t, "all", h, api.Image{Room: api.MaxHeap, Next: api.MaxHeap + 1})
}

// Examples 1 to 3.
func TestExamples(t *testing.T) {
	a := func(ids ...api.Ref) *api.Record { return sample.Naming(ids...) }
	one := func() *heap.Heap {
		h := empty(t, 9)
		add(t, h, a())
		return h
	}
	h := one()
	add(t, h, a(1))
	must(t, "Drop", h.Drop(1), api.ErrNamed)
	must(t, "Remove", h.Remove([]api.Ref{1, 2}), api.OK)
	if id, e := h.Add(a(5)); id != 0 || e != api.ErrDangling {
		t.Error(id, e)
	}
	h = one()
	must(t, "SetRoot", h.SetRoot("top", 1), api.OK)
	must(t, "Drop", h.Drop(1), api.ErrNamed)
	must(t, "SetRoot", h.SetRoot("top", 0), api.OK)
	must(t, "Drop", h.Drop(1), api.OK)
	if id, e := h.Add(a()); id != 2 || e != api.OK {
		t.Error(id, e)
	}
	h = one()
	must(t, "Put", h.Put(1, a(1)), api.OK)
	mustBeNamed(t, h, 1, 1)
	must(t, "Drop", h.Drop(1), api.OK)

	// DOC.md's first and fifth.
	h = one()
	if id, e := h.Add(sample.Record("a", 1, sample.Field("a", api.List{func() {}}))); id != 0 || e != api.ErrKind {
		t.Error(id, e)
	}
	add(t, h, a(1))
	must(t, "Put", h.Put(1, a(2)), api.OK)
	must(t, "Drop", h.Drop(1), api.ErrNamed)
	must(t, "Drop", h.Drop(2), api.ErrNamed)
}
