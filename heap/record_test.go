package heap_test

import (
	"math"
	"testing"

	"tenon/api"
	"tenon/heap"
	"tenon/sample"
	"tenon/value"
)

// P13.2: records of every kind are kept as they are, under identities that rise by one.
func TestAdd(t *testing.T) {
	h := empty(t, api.MaxHeap)
	add(t, h, sample.Naming(), sample.Naming())
	var records []*api.Record
	for i, name := range sample.GoodNames() {
		records = append(records, sample.Record(name, i+1, sample.Field(name, name)))
	}
	for _, v := range append(sample.Rising(), sample.Items(api.MaxItems), sample.Within(api.MaxDepth-1, nil), sample.Numbered(api.MaxNodes-3, api.Ref(2))) {
		if x, ok := v.(api.Ref); ok && x > 2 {
			continue
		}
		records = append(records, sample.Record("p", api.MaxVersion, sample.Field("a", v), sample.Field("b", true)))
		if r, ok := v.(*api.Record); ok {
			records = append(records, r)
		}
	}
	for i, r := range records {
		if id, e := h.Add(r); id != api.Ref(i+3) || e != api.OK {
			t.Fatal(i, sample.Told(r), id, e)
		}
	}
	for i, r := range records {
		mustGet(t, h, api.Ref(i+3), r)
	}
	if x := h.Image(); h.Len() != len(records)+2 || x.Next != api.Ref(len(records)+3) || !sample.ImageCanBe(x) {
		t.Error(h.Len(), x.Next)
	}
}

// wrong is a record that is refused, and why.
type wrong struct {
	name string
	r    *api.Record
	why  api.Errno
}

// wrongs is records that ring's heap refuses; what can't be is told ahead of what dangles.
func wrongs() []wrong {
	l := []wrong{
		{"none", nil, api.ErrNil}, {"zero", &api.Record{}, api.ErrName},
		{"alien ahead of dangling", sample.Record("a", 1, sample.Field("a", api.Ref(9)), sample.Field("b", 7)), api.ErrKind},
		{"version ahead of dangling", sample.Record("a", 0, sample.Field("a", api.Ref(9))), api.ErrArg},
		{"nothing ahead of dangling", sample.Record("a", 1, sample.Field("a", api.List{api.Ref(9), sample.Nobody()})), api.ErrNil},
		{"dangling at the end", sample.Naming(1, 2, 3, 4, 0, 9), api.ErrDangling},
		{"dangling deep", sample.Record("a", 1, sample.Field("a", sample.Within(api.MaxDepth-1, api.Ref(9)))), api.ErrDangling},
		{"dangling in fields", sample.Record("a", 1, sample.Field("a", sample.WithinFields(api.MaxDepth-1, api.Ref(9)))), api.ErrDangling},
		{"dangling last", sample.Record("a", 1, sample.Field("a", sample.Numbered(api.MaxNodes-2, api.Ref(9)))), api.ErrDangling},
		{"dangling within a record", sample.Record("a", 1, sample.Field("a", sample.Naming(9))), api.ErrDangling},
	}
	for _, id := range []api.Ref{5, 6, 9, lastNext - 1, lastNext, math.MaxUint64} {
		l = append(l, wrong{"names one that is not there", sample.Naming(id), api.ErrDangling})
	}
	for _, w := range sample.Wrongs() {
		if r, ok := w.V.(*api.Record); ok {
			l = append(l, wrong{w.Name, r, w.Why})
		}
		within := sample.Record("a", 1, sample.Field("a", api.Ref(9)), sample.Field("b", w.V))
		_, why := value.Check(within)
		l = append(l, wrong{w.Name + " within", within, why})
	}
	return l
}

// P13.2: what is refused, and why: the first error of the chapter's, the last of which is that there is no room.
func TestAddAndPutWrong(t *testing.T) {
	h := ring(t)
	full := load(t, api.Image{Room: 4, Next: 5, Records: h.Image().Records})
	over := load(t, api.Image{Room: 9, Next: lastNext, Records: h.Image().Records})
	for _, w := range wrongs() {
		mustStay(t, w.name, h, func() {
			if id, e := h.Add(w.r); id != 0 || e != w.why {
				t.Error(w.name, id, e, w.why)
			}
			for id := api.Ref(1); id <= 4; id++ {
				must(t, w.name, h.Put(id, w.r), w.why)
			}
			must(t, w.name, h.Put(0, w.r), api.ErrIdentity)
			must(t, w.name, h.Put(5, w.r), api.ErrIdentity)
			must(t, w.name, h.Put(math.MaxUint64, w.r), api.ErrIdentity)
		})
		for _, none := range []*heap.Heap{full, over} {
			if id, e := none.Add(w.r); id != 0 || e != w.why {
				t.Error("no room:", w.name, id, e, w.why)
			}
		}
	}
	for _, none := range []*heap.Heap{full, over} {
		mustStay(t, "no room", none, func() {
			if id, e := none.Add(sample.Naming(1)); id != 0 || e != api.ErrFull {
				t.Error(id, e)
			}
		})
		must(t, "no room", none.Put(1, sample.Naming(1)), api.OK)
	}
	add(t, h, sample.Naming()) // no identity was lost
	mustRefs(t, "IDs", h.IDs(), api.OK, 1, 2, 3, 4, 5)
}

// P13.2: a record that is added can't name itself, even if it knows under which identity it will be; with Put it can.
func TestNamesItself(t *testing.T) {
	h := empty(t, 3)
	if id, e := h.Add(sample.Naming(1)); id != 0 || e != api.ErrDangling {
		t.Error(id, e)
	}
	add(t, h, sample.Naming())
	if id, e := h.Add(sample.Naming(2)); id != 0 || e != api.ErrDangling {
		t.Error(id, e)
	}
	must(t, "Put", h.Put(1, sample.Naming(1)), api.OK)
	mustName(t, h, 1, 1)
	mustBeNamed(t, h, 1, 1)
	must(t, "Put", h.Put(1, sample.Naming(2)), api.ErrDangling)
	mustName(t, h, 1, 1)
	must(t, "Drop", h.Drop(1), api.OK)
}

// P13.2: references to 0 may stand anywhere, and name nobody.
func TestReferencesToNone(t *testing.T) {
	h := empty(t, 2)
	add(t, h, sample.Naming(0, 0), sample.Record("a", 1, sample.Field("a", api.Ref(0)), sample.Field("b", sample.Within(api.MaxDepth-1, api.Ref(0)))))
	mustName(t, h, 1)
	mustName(t, h, 2)
	must(t, "Drop", h.Drop(1), api.OK)
	must(t, "Drop", h.Drop(2), api.OK)
}

// P13.2: no identity is given again, however it was let go; one that was refused is given to the next.
func TestNeverAgain(t *testing.T) {
	h := empty(t, 3)
	add(t, h, sample.Naming(), sample.Naming())
	must(t, "Drop", h.Drop(2), api.OK)
	add(t, h, sample.Naming(1))
	mustRefs(t, "IDs", h.IDs(), api.OK, 1, 3)
	must(t, "Remove", h.Remove([]api.Ref{3, 1}), api.OK)
	if id, e := h.Add(sample.Naming(3)); id != 0 || e != api.ErrDangling {
		t.Error(id, e)
	}
	add(t, h, sample.Naming(), sample.Naming(), sample.Naming())
	mustRefs(t, "IDs", h.IDs(), api.OK, 4, 5, 6)
	if id, e := h.Add(sample.Naming()); id != 0 || e != api.ErrFull {
		t.Error(id, e)
	}
	must(t, "Drop", h.Drop(6), api.OK)
	g := load(t, h.Image())
	add(t, h, sample.Naming())
	add(t, g, sample.Naming())
	mustRefs(t, "IDs", g.IDs(), api.OK, 4, 5, 7)
	for _, id := range []api.Ref{1, 2, 3, 6, 8} {
		mustBeGone(t, h, id)
	}
}

// P13.2: the last identity is the one below 2^62; then there is no room, however few records there are.
func TestLastIdentity(t *testing.T) {
	h := load(t, api.Image{Room: 5, Next: lastNext - 2})
	add(t, h, sample.Naming(), sample.Naming(lastNext-2))
	mustRefs(t, "IDs", h.IDs(), api.OK, lastNext-2, lastNext-1)
	for range 2 {
		mustStay(t, "Next is the last", h, func() {
			if id, e := h.Add(sample.Naming()); id != 0 || e != api.ErrFull {
				t.Error(id, e)
			}
			if id, e := h.Add(sample.Naming(lastNext)); id != 0 || e != api.ErrDangling {
				t.Error(id, e)
			}
		})
		must(t, "Put", h.Put(lastNext-1, sample.Naming(lastNext-1)), api.OK)
		must(t, "Drop", h.Drop(lastNext-2), api.OK)
		must(t, "Drop", h.Drop(lastNext-1), api.OK)
		mustImage(t, "emptied", h, api.Image{Room: 5, Next: lastNext})
		h = load(t, api.Image{Room: 5, Next: lastNext, Records: []api.Stored{{ID: lastNext - 2, Record: sample.Naming()}, {ID: lastNext - 1, Record: sample.Naming()}}})
	}
}

// P13.2: Put changes that record alone, whoever names it, and what it names; also where there is no room.
func TestPut(t *testing.T) {
	h := load(t, api.Image{Room: 4, Next: 5, Records: ring(t).Image().Records, Roots: []api.Root{{Name: "top", ID: 2}}})
	want := h.Image()
	for _, r := range []*api.Record{sample.Naming(), sample.Naming(2), sample.Naming(4, 4, 0, 1), sample.Record("other", 9, sample.Field("x", "y")), sample.Record("a", 1), sample.Naming(3)} {
		must(t, sample.Told(r), h.Put(2, r), api.OK)
		want.Records[1].Record = r
		mustImage(t, sample.Told(r), h, want)
		mustGet(t, h, 2, r)
	}
	mustName(t, h, 2, 3)
	mustBeNamed(t, h, 2, 1, 4)
	mustBeNamed(t, h, 4, 4)
	mustBeNamed(t, h, 1, 3)
}
