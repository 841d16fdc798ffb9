package heap_test

import (
	"testing"

	"tenon/api"
	"tenon/heap"
	"tenon/object"
	"tenon/sample"
	"tenon/value"
	"tenon/wrap"
)

// thing is a record as an object, which must be there.
func thing(t *testing.T, h *heap.Heap, id api.Ref) api.Object {
	t.Helper()
	o, e := h.Object(id)
	if o == nil || e != api.OK {
		t.Fatal("Object", id, e)
	}
	return o
}

// mustTell is of an object that tells just what a record has; of none, nothing.
func mustTell(t *testing.T, o api.Object, id api.Ref, r *api.Record) {
	t.Helper()
	if r == nil {
		r = &api.Record{}
	}
	v, ok := o.(api.Versioned)
	if !ok || o.ID() != id || v.Class() != r.Class || v.Version() != r.Version {
		t.Errorf("%d, %v, want %d, %s", o.ID(), ok, id, sample.Told(r))
	}
	for _, f := range r.Fields {
		if got, has := o.Get(f.Name); !has || !value.Same(got, f.Value) {
			t.Errorf("%d, %q: %s, %v, want %s", id, f.Name, sample.Told(got), has, sample.Told(f.Value))
		}
	}
	for _, name := range append(sample.BadNames(), "none", "zzz") {
		if got, has := o.Get(name); got != nil || has {
			t.Errorf("%d, %q: %s", id, name, sample.Told(got))
		}
	}
}

// P13.5: an object tells what its record has now, behind each Put, and nothing once it is gone.
func TestObject(t *testing.T) {
	h := ring(t)
	o, other := thing(t, h, 4), thing(t, h, 1)
	mustTell(t, o, 4, sample.Naming(4, 2))
	for _, v := range sample.Rising() {
		if x, ok := v.(api.Ref); ok && x > 4 {
			continue
		}
		r := sample.Record("p", 7, sample.Field("a", v), sample.Field("b", api.List{v}), sample.Field("c", true))
		must(t, sample.Told(v), h.Put(4, r), api.OK)
		mustTell(t, o, 4, r)
		mustTell(t, thing(t, h, 4), 4, r)
	}
	must(t, "Put", h.Put(4, sample.Record("p", 8)), api.OK)
	mustTell(t, o, 4, sample.Record("p", 8))
	must(t, "Put refused", h.Put(4, sample.Naming(9)), api.ErrDangling)
	mustTell(t, o, 4, sample.Record("p", 8))
	must(t, "Drop", h.Drop(4), api.OK)
	mustTell(t, o, 4, nil)
	add(t, h, sample.Record("q", 1, sample.Field("a", "b")))
	mustTell(t, o, 4, nil)
	mustTell(t, other, 1, sample.Naming(2))
	must(t, "Remove", h.Remove([]api.Ref{1, 2, 3}), api.OK)
	mustTell(t, other, 1, nil)
}

// P13.5, P3: it has just the one ability, whether its record is there or not.
func TestAbilities(t *testing.T) {
	h := ring(t)
	o := thing(t, h, 4)
	for range 2 {
		if has, e := object.Abilities(o); has != api.IsVersioned || e != api.OK || object.Holds(o) != api.Something {
			t.Error(has, e)
		}
		_, indexed := o.(api.Indexed)
		_, owned := o.(api.Owned)
		_, lazy := o.(api.Lazy)
		if indexed || owned || lazy {
			t.Error(indexed, owned, lazy)
		}
		for shows := range 16 {
			x, e := wrap.Show(o, shows)
			if has, f := object.Abilities(x); has != shows&api.IsVersioned || e != api.OK || f != api.OK {
				t.Error(shows, has, e, f)
			}
		}
		h.Drop(4)
	}
}

// P13.5: an object is of its heap alone: neither a clone's change nor one of what was loaded is told by it.
func TestObjectOfItsHeap(t *testing.T) {
	h := ring(t)
	g, l := h.Clone(), load(t, h.Image())
	o, p := thing(t, h, 4), thing(t, g, 4)
	must(t, "Put", g.Put(4, sample.Record("p", 8)), api.OK)
	must(t, "Drop", l.Drop(4), api.OK)
	mustTell(t, o, 4, sample.Naming(4, 2))
	mustTell(t, p, 4, sample.Record("p", 8))
	must(t, "Drop", h.Drop(4), api.OK)
	mustTell(t, o, 4, nil)
	mustTell(t, p, 4, sample.Record("p", 8))
	mustTell(t, thing(t, l, 1), 1, sample.Naming(2))
}

// What package object's calls tell of a record that is there, and of one that is gone.
func TestAsked(t *testing.T) {
	h := empty(t, 1)
	want := sample.Record("p", 3, sample.Field("a", api.List{nil}), sample.Field("b", "x"))
	add(t, h, want)
	o := thing(t, h, 1)
	if r, e := object.Record(o, []string{"c", "b", "a"}); e != api.OK || !value.Same(r, want) {
		t.Error(sample.Told(r), e)
	}
	if one, e := object.One(o, thing(t, h, 1)); !one || e != api.OK {
		t.Error(one, e)
	}
	must(t, "Give", object.Give(o, "ann"), api.ErrLack)
	must(t, "Load", object.Load(o), api.OK)
	must(t, "Drop", h.Drop(1), api.OK)
	if r, e := object.Record(o, []string{"a"}); r != nil || e != api.ErrName {
		t.Error(sample.Told(r), e)
	}
	if v, has, e := object.Ask(o, "a"); v != nil || has || e != api.OK {
		t.Error(v, has, e)
	}
}
