package heap_test

import (
	"testing"

	"tenon/api"
	"tenon/convert"
	"tenon/evolve"
	"tenon/lazy"
	"tenon/object"
	"tenon/sample"
	"tenon/schema"
	"tenon/value"
	"tenon/wire"
)

// P1: a record comes out of a heap as it went in, however it is asked: its text and its bytes are one.
func TestInAndOut(t *testing.T) {
	h := empty(t, api.MaxHeap)
	for _, v := range sample.Rich() {
		r := sample.Record("p", 3, sample.Field("a", v))
		if _, e := value.Check(r); e != api.OK || len(sample.RefsOf(v)) > 0 {
			continue
		}
		id, e := h.Add(r)
		if e != api.OK {
			t.Fatal(sample.Told(v), e)
		}
		got, _ := h.Get(id)
		asked, _ := thing(t, h, id).Get("a")
		a, _ := wire.Encode(r)
		b, _ := wire.Encode(got)
		if o, e := value.Order(asked, v); o != 0 || e != api.OK || string(a) != string(b) || sample.Told(got) != sample.Told(r) {
			t.Error(sample.Told(v), o, e)
		}
	}
}

// P2: whatever can't be is told, and panics none, within a record, and where it is the record.
func TestNilIsToldApart(t *testing.T) {
	h := ring(t)
	for _, w := range sample.Wrongs() {
		r := sample.Record("p", 3, sample.Field("a", w.V))
		_, why := value.Check(r)
		if _, e := h.Add(r); e != why || e == api.OK {
			t.Error(w.Name, e, why)
		}
	}
	_, e := h.Add(sample.Nobody())
	must(t, "a nil record", e, api.ErrNil)
}

// A ghost may fetch what it holds from a heap: what it told it tells until it forgets, the heap's own object at once what is so.
func TestFetchedFromHeap(t *testing.T) {
	h := ring(t)
	p, e := lazy.NewPool(2, h.Get)
	if e != api.OK {
		t.Fatal(e)
	}
	g, _ := p.At(4)
	mustTell(t, g, 4, sample.Naming(4, 2))
	must(t, "Put", h.Put(4, sample.Record("q", 2)), api.OK)
	mustTell(t, g, 4, sample.Naming(4, 2))
	mustTell(t, thing(t, h, 4), 4, sample.Record("q", 2))
	must(t, "Forget", g.Forget(), api.OK)
	mustTell(t, g, 4, sample.Record("q", 2))
	must(t, "Drop", h.Drop(4), api.OK)
	must(t, "Forget", g.Forget(), api.OK)
	must(t, "Load", g.Load(), api.ErrIdentity)
	mustTell(t, g, 4, nil)
}

// P4: what was stored in an old version is brought to a new one by the chain, from the heap's record and from its object alike.
func TestStoredIsConverted(t *testing.T) {
	l, _, e := schema.Parse(`class person 1 { name: text } class person 2 { age: int = 0 name: text } class person 3 { age: int = 0 called: text was name }`)
	var s schema.Schema
	var r convert.Registry
	for _, c := range l {
		must(t, c.Version, s.Define(c), api.OK)
	}
	for v := 1; v < 3; v++ {
		up, f := evolve.Auto(&s, "person", v, v+1)
		if _, g := r.Add(up); e != api.OK || f != api.OK || g != api.OK {
			t.Fatal(e, f, g)
		}
	}
	h := empty(t, 1)
	add(t, h, sample.Record("person", 1, sample.Field("name", "ann")))
	stored, _ := h.Get(1)
	seen, _ := object.Record(thing(t, h, 1), []string{"name"})
	for _, old := range []*api.Record{stored, seen} {
		if now, e := r.Convert(old, 3); e != api.OK || sample.Told(now) != `person/3{age: 0, called: "ann"}` {
			t.Error(sample.Told(now), e)
		}
	}
}
