package heap_test

import (
	"testing"

	"tenon/api"
	"tenon/heap"
	"tenon/sample"
	"tenon/value"
)

// roomy is a record with spare room, and with one list, dict, record and run of bytes at several places; it names an identity.
func roomy(id api.Ref) *api.Record {
	v := sample.Twofold()
	d := append(make(api.Dict, 0, 6), sample.Field("a", v), sample.Field("b", v), sample.Field("c", id), sample.Field("room", "x"), sample.Field("room", "y"))[:3]
	return sample.Record("p", 3, d...)
}

// kept tells whether a record is still as roomy made it, spare room too.
func kept(r *api.Record, id api.Ref) bool {
	room := r.Fields[:5]
	return value.Same(r, roomy(id)) && sample.RoomKept(r.Fields[0].Value) && room[3] == sample.Field("room", "x") && room[4] == sample.Field("room", "y")
}

// roomyImage is an image of such records, one of them under two identities, and with spare room.
func roomyImage() api.Image {
	r := roomy(2)
	records := append(make([]api.Stored, 0, 5), api.Stored{ID: 1, Record: roomy(0)}, api.Stored{ID: 2, Record: r}, api.Stored{ID: 3, Record: r}, api.Stored{ID: 44})[:3]
	roots := append(make([]api.Root, 0, 3), api.Root{Name: "a", ID: 1}, api.Root{Name: "b", ID: 2}, api.Root{Name: "room", ID: 44})[:2]
	return api.Image{Room: 9, Next: 4, Records: records, Roots: roots}
}

// P13.10: what Add, Put and Load are handed is neither changed nor kept.
func TestHandedIn(t *testing.T) {
	h := empty(t, 9)
	r := roomy(0)
	add(t, h, r, r)
	again := roomy(2)
	must(t, "Put", h.Put(2, again), api.OK)
	ids := append(make([]api.Ref, 0, 4), 1, 2, 77)[:2]
	must(t, "Remove", h.Clone().Remove(ids), api.OK)
	if !kept(r, 0) || !kept(again, 2) || ids[0] != 1 || ids[1] != 2 || ids[:3][2] != 77 {
		t.Error("what was handed in has changed")
	}
	sample.Spoil(r)
	sample.Spoil(again)
	mustGet(t, h, 1, roomy(0))
	mustGet(t, h, 2, roomy(2))
	mustName(t, h, 2, 2)

	x := roomyImage()
	h = load(t, x)
	mustImage(t, "Load", h, roomyImage())
	if !kept(x.Records[0].Record, 0) || !kept(x.Records[1].Record, 2) || x.Records[:4][3].ID != 44 || x.Roots[:3][2].ID != 44 {
		t.Error("the image has changed")
	}
	sample.SpoilImage(x)
	mustImage(t, "Load", h, roomyImage())
}

// P13.10: what is refused is neither changed nor kept.
func TestHandedInAndRefused(t *testing.T) {
	h := ring(t)
	r := roomy(9)
	mustStay(t, "refused", h, func() {
		if id, e := h.Add(r); id != 0 || e != api.ErrDangling {
			t.Error(id, e)
		}
		must(t, "Put", h.Put(1, r), api.ErrDangling)
	})
	if !kept(r, 9) {
		t.Error("the record has changed")
	}
}

// P13.10: what is told is nobody else's: writing into it, spare room too, changes neither the heap, nor a clone, nor another answer.
func TestAnswersApart(t *testing.T) {
	h := load(t, roomyImage())
	g := h.Clone()
	for _, x := range []*heap.Heap{h, g} {
		a, _ := x.Get(2)
		b, _ := x.Get(2)
		v, _ := thing(t, x, 2).Get("a")
		w, _ := thing(t, x, 2).Get("a")
		first, second := x.Image(), x.Image()
		l := []any{a, b, v, w}
		for _, s := range append(first.Records, second.Records...) {
			l = append(l, s.Record)
		}
		if i, ok := sample.Apart(l...); !ok {
			t.Error(i, "shares memory")
		}
		r, _ := x.Get(3)
		if i, ok := sample.Apart(r.Fields[0].Value.(api.List)...); !ok {
			t.Error(i, "shares memory with another part")
		}
		sample.SpoilImage(first)
		sample.SpoilImage(x.Image())
		for _, answers := range []func() []api.Ref{x.IDs, func() []api.Ref { l, _ := x.Names(2); return l }, func() []api.Ref { l, _ := x.Namers(2); return l }} {
			one, two := answers(), answers()
			for _, l := range [][]api.Ref{one[:cap(one)], append(one, 99)} {
				for i := range l {
					l[i] = 99
				}
			}
			for i := range two {
				if two[i] == 99 {
					t.Error("shares memory")
				}
			}
		}
		one, two := x.Roots(), x.Roots()
		for _, l := range [][]api.Root{one[:cap(one)], append(one, api.Root{})} {
			for i := range l {
				l[i] = api.Root{Name: "spoilt"}
			}
		}
		if two[0].Name != "a" || two[1].Name != "b" {
			t.Error(two)
		}
		mustImage(t, "a", h, roomyImage())
		mustImage(t, "b", g, roomyImage())
		mustName(t, x, 3, 2)
		mustBeNamed(t, x, 2, 2, 3)
	}
}

// P13.10: what was told stays as it is, whatever becomes of the heap.
func TestToldStays(t *testing.T) {
	h := load(t, roomyImage())
	x, ids, roots := h.Image(), h.IDs(), h.Roots()
	names, _ := h.Names(2)
	namers, _ := h.Namers(2)
	r, _ := h.Get(2)
	must(t, "Put", h.Put(2, sample.Naming(1)), api.OK)
	must(t, "SetRoot", h.SetRoot("a", 0), api.OK)
	must(t, "SetRoot", h.SetRoot("b", 0), api.OK)
	must(t, "Remove", h.Remove([]api.Ref{3, 2, 1}), api.OK)
	add(t, h, sample.Naming())
	if !sample.SameImages(x, roomyImage()) || !value.Same(r, roomy(2)) || len(roots) != 2 {
		t.Error(shown(x), sample.Told(r), roots)
	}
	mustRefs(t, "IDs", ids, api.OK, 1, 2, 3)
	mustRefs(t, "Names", names, api.OK, 2)
	mustRefs(t, "Namers", namers, api.OK, 2, 3)
}

// P13.10: what one heap told can be handed to it again, or to another one.
func TestHandedOn(t *testing.T) {
	h := load(t, roomyImage())
	r, _ := h.Get(2)
	must(t, "Put", h.Put(3, r), api.OK)
	id, e := h.Add(r)
	g := load(t, h.Image())
	sample.Spoil(r)
	if id != 4 || e != api.OK {
		t.Error(id, e)
	}
	for _, x := range []*heap.Heap{h, g} {
		for id := api.Ref(2); id <= 4; id++ {
			mustGet(t, x, id, roomy(2))
		}
	}
}
