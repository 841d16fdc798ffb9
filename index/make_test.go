package index_test

import (
	"fmt"
	"slices"
	"testing"

	"tenon/api"
	"tenon/index"
	"tenon/object"
	"tenon/sample"
	"tenon/value"
)

func refs(ids ...api.Ref) []api.Ref { return ids }

// Definitions that most tests go by.
func byAge() api.IndexOf      { return api.IndexOf{Class: "person", Way: "age"} }
func byTag() api.IndexOf      { return api.IndexOf{Way: "tags[0]"} }
func some() api.IndexOf       { return api.IndexOf{Way: "tags[0]", Some: true} }
func uniqueAges() api.IndexOf { return api.IndexOf{Way: "age", Unique: true} }

// fresh is an index of nothing, which must be made.
func fresh(t *testing.T, def api.IndexOf) *index.Index {
	t.Helper()
	x, e := index.New(def)
	if x == nil || e != api.OK {
		t.Fatal("New", def, e)
	}
	return x
}

// thing is an object without abilities, which must be made.
func thing(t *testing.T, id api.Ref, fields ...api.Field) api.Object {
	t.Helper()
	o, e := object.New(id, fields)
	if o == nil || e != api.OK {
		t.Fatal("object.New", id, e)
	}
	return o
}

// aged is an object that has an age alone.
func aged(id api.Ref, age any) api.Object {
	return sample.Able(0, &sample.Script{ID: id, Fields: api.Dict{sample.Field("age", age)}})
}

// person is an object of a class that has an age.
func person(id api.Ref, age any) api.Object {
	return sample.Able(api.IsVersioned, &sample.Script{ID: id, Class: "person", Version: 1, Fields: api.Dict{sample.Field("age", age)}})
}

// teller is an object that tells its keys.
func teller(id api.Ref, keys ...any) api.Object {
	return sample.Able(api.IsIndexed, &sample.Script{ID: id, Keys: keys})
}

// filled is an index of objects that tell an int each, 10 times their identity, from 1 to n.
func filled(t *testing.T, n int) *index.Index {
	t.Helper()
	x := fresh(t, byTag())
	for i := range n {
		mustPut(t, x, teller(api.Ref(i+1), int64(10*(i+1))))
	}
	return x
}

// pairs is a list of what is found: a key, then an identity, then the next key.
func pairs(keysAndIDs ...any) []api.Found {
	var l []api.Found
	for i := 0; i < len(keysAndIDs); i += 2 {
		l = append(l, api.Found{Key: keysAndIDs[i], ID: api.Ref(keysAndIDs[i+1].(int))})
	}
	return l
}

func samePairs(a, b []api.Found) bool {
	return slices.EqualFunc(a, b, func(a, b api.Found) bool { return a.ID == b.ID && value.Same(a.Key, b.Key) })
}

func readPairs(l []api.Found) string {
	s := fmt.Sprint(len(l), ":")
	for _, f := range l[:min(len(l), 30)] {
		s += fmt.Sprint(" ", sample.Told(f.Key), " ", uint64(f.ID))
	}
	return s
}

// between is what Range shows, and its error.
func between(x *index.Index, from, to any, open, shut bool) ([]api.Found, api.Errno) {
	var l []api.Found
	e := x.Range(from, to, open, shut, func(f api.Found) bool { l = append(l, f); return true })
	return l, e
}

// all is all pairs of an index.
func all(t *testing.T, x *index.Index) []api.Found {
	t.Helper()
	l, e := between(x, nil, nil, true, true)
	must(t, "Range of all", e, api.OK)
	return l
}

func must(t *testing.T, name any, got, want api.Errno) {
	t.Helper()
	if got != want {
		t.Errorf("%v: %d, want %d", name, got, want)
	}
}

// mustPut puts an object in, which must go; Test ahead of it must tell so and change nothing.
func mustPut(t *testing.T, x *index.Index, o api.Object) {
	t.Helper()
	ahead := x.Len()
	must(t, "Test", x.Test(o), api.OK)
	if x.Len() != ahead {
		t.Error("Test changed the index")
	}
	must(t, "Put", x.Put(o), api.OK)
}

// mustNotPut has an index refuse an object, and stay as it is.
func mustNotPut(t *testing.T, name any, x *index.Index, o api.Object, want api.Errno) {
	t.Helper()
	mustStay(t, name, x, func() {
		must(t, fmt.Sprint(name, ": Test"), x.Test(o), want)
		must(t, fmt.Sprint(name, ": Put"), x.Put(o), want)
	})
}

// mustStay makes calls that must change nothing of an index.
func mustStay(t *testing.T, name any, x *index.Index, calls func()) {
	t.Helper()
	ahead, kept := all(t, x), keysOfMany(x)
	calls()
	if l := all(t, x); !samePairs(l, ahead) || !sameKeys(keysOfMany(x), kept) {
		t.Errorf("%v: %s, was %s", name, readPairs(l), readPairs(ahead))
	}
}

// keysOfMany is the keys of the identities that the tests have most.
func keysOfMany(x *index.Index) map[api.Ref][]any {
	m := map[api.Ref][]any{}
	for id := range api.Ref(60) {
		if keys, has := x.Keys(id); has {
			m[id] = keys
		}
	}
	return m
}

func sameKeys(a, b map[api.Ref][]any) bool {
	for id, keys := range a {
		other, has := b[id]
		if !has || !slices.EqualFunc(keys, other, value.Same) {
			return false
		}
	}
	return len(a) == len(b)
}

// mustHold is that an index has just these pairs, however it is asked.
func mustHold(t *testing.T, name any, x *index.Index, want ...api.Found) {
	t.Helper()
	if l := all(t, x); !samePairs(l, want) || x.Len() != len(want) {
		t.Errorf("%v: %s, Len %d, want %s", name, readPairs(l), x.Len(), readPairs(want))
	}
	keys := map[api.Ref][]any{}
	for i, f := range want {
		keys[f.ID] = append(keys[f.ID], f.Key)
		var ids []api.Ref
		for _, g := range want {
			if value.Same(f.Key, g.Key) {
				ids = append(ids, g.ID)
			}
		}
		if i < 100 {
			mustFind(t, x, f.Key, ids...)
		}
	}
	for id, l := range keys {
		mustKeep(t, x, id, l...)
	}
}

func mustFind(t *testing.T, x *index.Index, key any, want ...api.Ref) {
	t.Helper()
	if l, e := x.Find(key); !slices.Equal(l, want) || e != api.OK {
		t.Errorf("Find(%s): %d, %d, want %d", sample.Told(key), l, e, want)
	}
}

func mustKeep(t *testing.T, x *index.Index, id api.Ref, want ...any) {
	t.Helper()
	if l, has := x.Keys(id); !slices.EqualFunc(l, want, value.Same) || !has {
		t.Errorf("Keys(%d): %s, %v, want %s", id, sample.Told(api.List(l)), has, sample.Told(api.List(want)))
	}
}

func mustNotKeep(t *testing.T, x *index.Index, ids ...api.Ref) {
	t.Helper()
	for _, id := range ids {
		if l, has := x.Keys(id); len(l) > 0 || has {
			t.Errorf("Keys(%d): %s, %v", id, sample.Told(api.List(l)), has)
		}
	}
}

// mustShow holds what Range shows against what is wanted.
func mustShow(t *testing.T, x *index.Index, from, to any, open, shut bool, want ...api.Found) {
	t.Helper()
	if l, e := between(x, from, to, open, shut); !samePairs(l, want) || e != api.OK {
		t.Errorf("Range(%s, %s, %v, %v): %s, %d, want %s", sample.Told(from), sample.Told(to), open, shut, readPairs(l), e, readPairs(want))
	}
}

func mustDrop(t *testing.T, x *index.Index, id api.Ref, want bool) {
	t.Helper()
	if had := x.Drop(id); had != want {
		t.Errorf("Drop(%d): %v", id, had)
	}
}
