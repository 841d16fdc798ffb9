package index_test

import (
	"math/rand"
	"testing"

	"tenon/api"
	"tenon/heap"
	"tenon/lazy"
	"tenon/sample"
	"tenon/wrap"
)

// Example 1.
func TestExampleAges(t *testing.T) {
	x := fresh(t, byAge())
	mustPut(t, x, person(7, int64(30)))
	mustPut(t, x, person(8, 1.5))
	mustFind(t, x, int64(30), 7)
	mustShow(t, x, int64(0), nil, false, true, pairs(int64(30), 7, 1.5, 8)...)
}

// Example 2.
func TestExampleTags(t *testing.T) {
	x := fresh(t, some())
	mustPut(t, x, thing(t, 7, sample.Field("name", "ann")))
	mustHold(t, "Some", x)
	mustNotKeep(t, x, 7)
	x = fresh(t, byTag())
	mustPut(t, x, thing(t, 7, sample.Field("name", "ann")))
	mustFind(t, x, nil, 7)
}

// Example 3.
func TestExampleUnique(t *testing.T) {
	x := fresh(t, uniqueAges())
	mustPut(t, x, aged(7, int64(30)))
	mustNotPut(t, "9", x, aged(9, int64(30)), api.ErrTwice)
	mustPut(t, x, aged(7, int64(30)))
	mustPut(t, x, teller(8, "a", "b"))
	mustFind(t, x, "a", 8)
	mustFind(t, x, "b", 8)
}

// P16.10: objects with identities of their own come to the same in whatever order they are put.
func TestWhateverOrder(t *testing.T) {
	r := rand.New(rand.NewSource(10))
	for _, def := range []api.IndexOf{{Way: "a"}, {Way: "b.c", Some: true}, {Class: "p", Way: "a[1]"}} {
		type object struct {
			set int
			s   *sample.Script
		}
		var objects []object
		for id := range api.Ref(50) {
			set, s := someObject(r)
			s.ID, s.Loaded = id+1, true
			objects = append(objects, object{set, s})
		}
		first := fresh(t, def)
		for _, o := range objects {
			first.Put(sample.Able(o.set, o.s))
		}
		if first.Len() < 15 {
			t.Error("too little:", first.Len())
		}
		for range 20 {
			x := fresh(t, def)
			for _, i := range r.Perm(len(objects)) {
				x.Put(sample.Able(objects[i].set, objects[i].s))
			}
			if !samePairs(all(t, x), all(t, first)) || !sameKeys(keysOfMany(x), keysOfMany(first)) {
				t.Errorf("%+v: %s, %s", def, readPairs(all(t, x)), readPairs(all(t, first)))
			}
		}
	}
}

// P2, P16.2: what a heap's objects tell is what is so now; of a record that is gone nothing is.
func TestObjectsOfAHeap(t *testing.T) {
	h, _ := heap.New(9)
	x := fresh(t, byAge())
	var objects []api.Object
	for _, age := range []any{int64(30), "old", nil} {
		id, e := h.Add(sample.Record("person", 1, sample.Field("age", age)))
		must(t, "Add", e, api.OK)
		o, e := h.Object(id)
		must(t, "Object", e, api.OK)
		mustPut(t, x, o)
		objects = append(objects, o)
	}
	mustHold(t, "as they are", x, pairs(nil, 3, int64(30), 1, "old", 2)...)
	must(t, "Put", h.Put(1, sample.Record("person", 2, sample.Field("age", "older"))), api.OK)
	must(t, "Put", h.Put(2, sample.Record("dog", 1, sample.Field("age", int64(3)))), api.OK)
	mustHold(t, "not put anew", x, pairs(nil, 3, int64(30), 1, "old", 2)...)
	for _, o := range objects {
		mustPut(t, x, o)
	}
	mustHold(t, "put anew", x, pairs(nil, 3, "older", 1)...)
	must(t, "Remove", h.Remove(refs(3)), api.OK)
	mustStay(t, "one that is gone", x, func() {
		must(t, "Test", x.Test(objects[2]), api.ErrName)
		must(t, "Put", x.Put(objects[2]), api.ErrName)
	})
}

// P3: an object that only shows that it is Indexed where it is meant to is found by its keys just there, else by what lies at the way.
func TestObjectsShown(t *testing.T) {
	s := &sample.Script{ID: 1, Class: "person", Version: 1, Keys: []any{"key"}, Fields: api.Dict{sample.Field("age", int64(30))}}
	for set := range 16 {
		x := fresh(t, byAge())
		o, e := wrap.Show(sample.Able(15, s), set)
		must(t, "Show", e, api.OK)
		mustPut(t, x, o)
		switch {
		case set&api.IsVersioned == 0:
			mustHold(t, set, x)
		case set&api.IsIndexed == 0:
			mustHold(t, set, x, pairs(int64(30), 1)...)
		default:
			mustHold(t, set, x, pairs("key", 1)...)
		}
	}
}

// P4: a ghost is fetched when it is put in, and not when it is asked for nothing; one that can't be fetched is refused.
func TestGhosts(t *testing.T) {
	fetched := 0
	answers := api.OK
	fetch := func(api.Ref) (*api.Record, api.Errno) {
		fetched++
		if answers != api.OK {
			return nil, answers
		}
		return sample.Record("person", 1, sample.Field("age", int64(30))), api.OK
	}
	x := fresh(t, api.IndexOf{Way: "age"})
	g, e := lazy.New(7, fetch)
	must(t, "New", e, api.OK)
	answers = api.ErrIdentity
	mustNotPut(t, "not there", x, g, api.ErrIdentity)
	answers = api.OK
	mustPut(t, x, g)
	mustHold(t, "fetched", x, pairs(int64(30), 7)...)
	if fetched != 3 {
		t.Error(fetched)
	}
}
