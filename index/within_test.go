package index_test

import (
	"testing"

	"tenon/api"
	"tenon/sample"
)

// P16.2: an object's methods may use the index that it is put into: what they change is there when it is looked at what is kept.
func TestPutWithin(t *testing.T) {
	for _, method := range []string{"ID", "Class", "Version", "Loaded", "Load", "Get"} {
		x := fresh(t, api.IndexOf{Class: "person", Way: "age", Unique: true})
		mustPut(t, x, person(1, "a"))
		s := &sample.Script{ID: 2, Class: "person", Version: 1, Fields: api.Dict{sample.Field("age", "b")}}
		s.Meanwhile = func(m string) {
			if m == method {
				mustPut(t, x, person(3, "b"))
				mustPut(t, x, person(2, "c"))
			}
		}
		must(t, "taken meanwhile", x.Put(sample.Able(api.IsVersioned+api.IsLazy, s)), api.ErrTwice)
		mustHold(t, method, x, pairs("a", 1, "b", 3, "c", 2)...)
		s.Meanwhile, s.Loaded = func(m string) {
			if m == method {
				x.Drop(3)
				x.Drop(1)
			}
		}, false
		must(t, "given free meanwhile", x.Put(sample.Able(api.IsVersioned+api.IsLazy, s)), api.OK)
		mustHold(t, method, x, pairs("b", 2)...)
		s.Meanwhile = func(m string) {
			if m == method {
				x.Drop(2)
				panic("then")
			}
		}
		s.Loaded = false
		must(t, "panics", x.Put(sample.Able(api.IsVersioned+api.IsLazy, s)), api.ErrPanic)
		mustHold(t, "what a method did stays", x)
	}
}

// P16.2: likewise of one that tells its keys, also through Test, which itself changes nothing.
func TestTestWithin(t *testing.T) {
	for _, method := range []string{"ID", "Keys"} {
		x := fresh(t, uniqueAges())
		s := &sample.Script{ID: 2, Keys: []any{"b", "a"}}
		s.Meanwhile = func(m string) {
			if m == method {
				x.Put(aged(3, "b"))
			}
		}
		must(t, method, x.Test(sample.Able(api.IsIndexed, s)), api.ErrTwice)
		mustHold(t, method, x, pairs("b", 3)...)
		s.Meanwhile = func(m string) {
			if m == method {
				x.Drop(3)
			}
		}
		must(t, method, x.Test(sample.Able(api.IsIndexed, s)), api.OK)
		mustHold(t, method, x)
		s.Meanwhile = func(m string) {
			if m == method && len(s.Log) < 50 {
				must(t, "within", x.Put(sample.Able(api.IsIndexed, s)), api.OK)
			}
		}
		must(t, method, x.Put(sample.Able(api.IsIndexed, s)), api.OK)
		mustHold(t, "itself within itself", x, pairs("a", 2, "b", 2)...)
	}
}

// P16.2: where there is room for one alone, one that is put meanwhile has it.
func TestFullWithin(t *testing.T) {
	x := fresh(t, byTag())
	for i := range api.MaxHeap - 1 {
		mustPut(t, x, teller(api.Ref(i+1)))
	}
	s := &sample.Script{ID: 5000, Keys: []any{"a"}, Meanwhile: func(m string) {
		if m == "Keys" {
			must(t, "meanwhile", x.Put(teller(6000, "b")), api.OK)
		}
	}}
	must(t, "Put", x.Put(sample.Able(api.IsIndexed, s)), api.ErrFull)
	mustHold(t, "the other one", x, pairs("b", 6000)...)
	s.Meanwhile = func(m string) {
		if m == "Keys" {
			x.Drop(1)
		}
	}
	must(t, "Put", x.Put(sample.Able(api.IsIndexed, s)), api.OK)
	mustHold(t, "both", x, pairs("a", 5000, "b", 6000)...)
}
