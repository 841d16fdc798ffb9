package digest_test

import (
	"math"
	"testing"

	"tenon/api"
	"tenon/digest"
	"tenon/sample"
	"tenon/value"
)

// P5.2: a Map that no call was made on is empty, whichever call is the first.
func TestZeroMap(t *testing.T) {
	for _, key := range mixed() {
		var got, deleted, put digest.Map
		v, had := got.Get(key)
		answers(t, "Get", v, had, nil, false)
		v, had = deleted.Delete(key)
		answers(t, "Delete", v, had, nil, false)
		holds(t, "got", &got)
		holds(t, "deleted", &deleted)
		v, had, e := put.Put(key, "a")
		answers(t, "Put", v, had, nil, false)
		holds(t, "put", &put, key, "a")
		if e != api.OK || got.Len() != 0 {
			t.Error(e, got.Len())
		}
	}
	var m digest.Map
	if m.Len() != 0 {
		t.Error(m.Len())
	}
	if e := m.Each(func(key, v any) bool { t.Error("called with", key); return true }); e != api.OK {
		t.Error(e)
	}
	if e := m.Each(nil); e != api.ErrArg {
		t.Error(e)
	}
}

// P5.2: what was kept under a key, and whether anything was, whatever kinds key and value are of.
func TestPutGetDelete(t *testing.T) {
	all := mixed()
	for i, key := range all {
		for j, v := range all {
			var m digest.Map
			last := all[(i+j)%len(all)]
			for _, x := range []struct {
				put, was any
				had      bool
			}{{v, nil, false}, {last, v, true}, {v, last, true}} {
				old, had, e := m.Put(copied(key), copied(x.put))
				answers(t, "Put", old, had, x.was, x.had)
				got, ok := m.Get(copied(key))
				answers(t, "Get", got, ok, x.put, true)
				if e != api.OK || m.Len() != 1 {
					t.Fatal(e, m.Len())
				}
			}
			holds(t, "put thrice", &m, key, v)
			old, had := m.Delete(copied(key))
			answers(t, "Delete", old, had, v, true)
			holds(t, "deleted", &m)
			old, had = m.Delete(key)
			answers(t, "Delete again", old, had, nil, false)
			got, ok := m.Get(key)
			answers(t, "Get of what is gone", got, ok, nil, false)
			old, had, e := m.Put(key, last)
			answers(t, "Put again", old, had, nil, false)
			holds(t, "put again", &m, key, last)
			if e != api.OK {
				t.Error(e)
			}
		}
	}
}

// P5.2, P5.6: keys that are much alike, or that Go can't hold against one another, are each its own.
func TestKeysOfEveryKind(t *testing.T) {
	var m digest.Map
	all := mixed()
	var want []any
	for i, key := range all {
		if old, had, e := m.Put(key, int64(i)); old != nil || had || e != api.OK {
			t.Fatalf("%v: %v, %v, %d", key, old, had, e)
		}
		want = append(want, key, int64(i))
	}
	holds(t, "all", &m, want...)
	for i, key := range all {
		v, ok := m.Get(key)
		answers(t, "Get", v, ok, int64(i), true)
	}
	for i, key := range all {
		v, had := m.Delete(key)
		answers(t, "Delete", v, had, int64(i), true)
		holds(t, "those behind", &m, want[2*i+2:]...)
	}
}

// P5.2: floats are told apart by their bits, and from ints.
func TestFloatKeys(t *testing.T) {
	var m digest.Map
	for i, key := range floatKeys() {
		for n, had := range []bool{false, true} {
			if _, was, e := m.Put(key, int64(i)); was != had || e != api.OK || m.Len() != i+1 {
				t.Errorf("%v, put %d: %v, %d, %d keys", key, n+1, was, e, m.Len())
			}
		}
	}
	if v, ok := m.Get(sample.MinusZero()); v != int64(1) || !ok {
		t.Error("-0:", v, ok)
	}
	if v, ok := m.Get(math.NaN()); v != int64(2) || !ok {
		t.Error("NaN:", v, ok)
	}
	if v, ok := m.Get(int64(1)); v != nil || ok {
		t.Error("an int of a float's number:", v, ok)
	}
	if v, had := m.Delete(0.0); v != int64(0) || !had || m.Len() != len(floatKeys())-1 {
		t.Error("0:", v, had, m.Len())
	}
}

// P5.2: lists, dicts and bytes that are nil are the empty ones.
func TestEmptyKeys(t *testing.T) {
	for _, x := range [][2]any{{api.List(nil), api.List{}}, {api.Dict(nil), api.Dict{}}, {[]byte(nil), []byte{}}, {&api.Record{Class: "a", Version: 1}, sample.Record("a", 1, api.Dict{}...)}} {
		var m digest.Map
		m.Put(x[0], x[1])
		v, had, e := m.Put(x[1], x[0])
		answers(t, "Put", v, had, x[1], true)
		holds(t, "nil and empty", &m, x[0], x[1])
		if e != api.OK {
			t.Error(e)
		}
	}
}

// P5.2: KNil may be kept, and may be a key.
func TestNilKept(t *testing.T) {
	var m digest.Map
	list := api.List{int64(1)}
	v, had, e := m.Put(list, "a")
	answers(t, "nothing was there", v, had, nil, false)
	v, had, e2 := m.Put(list, nil)
	answers(t, "the text was there", v, had, "a", true)
	v, had = m.Get(list)
	answers(t, "none is there", v, had, nil, true)
	v, had = m.Get(int(1))
	answers(t, "an int", v, had, nil, false)
	v, had, e3 := m.Put(list, nil)
	answers(t, "none was there", v, had, nil, true)
	v, had, e4 := m.Put(nil, nil)
	answers(t, "none under none", v, had, nil, false)
	holds(t, "two", &m, nil, nil, list, nil)
	v, had = m.Delete(nil)
	answers(t, "none under none deleted", v, had, nil, true)
	v, had = m.Get(nil)
	answers(t, "nothing under none", v, had, nil, false)
	v, had = m.Delete(list)
	answers(t, "none deleted", v, had, nil, true)
	holds(t, "nothing", &m)
	if e != api.OK || e2 != api.OK || e3 != api.OK || e4 != api.OK {
		t.Error(e, e2, e3, e4)
	}
}

// P5.2: Check's error of the key, or else of the value; nothing is kept, nothing is lost.
func TestMapWrong(t *testing.T) {
	full := filled(t, api.MaxItems)
	for _, x := range sample.Wrongs() {
		var zero, one digest.Map
		one.Put("a", "b")
		for _, m := range []*digest.Map{&zero, &one, full} {
			n := m.Len()
			for what, put := range map[string]func() (any, bool, api.Errno){
				"key": func() (any, bool, api.Errno) { return m.Put(x.V, "v") }, "value": func() (any, bool, api.Errno) { return m.Put("a", x.V) }, "both": func() (any, bool, api.Errno) { return m.Put(x.V, x.V) }, "value under a new key": func() (any, bool, api.Errno) { return m.Put("new", x.V) },
			} {
				v, had, e := put()
				answers(t, what+", "+x.Name, v, had, nil, false)
				if e != x.Why {
					t.Errorf("%s, %s: %d, want %d", what, x.Name, e, x.Why)
				}
			}
			v, had := m.Get(x.V)
			answers(t, "Get, "+x.Name, v, had, nil, false)
			v, had = m.Delete(x.V)
			answers(t, "Delete, "+x.Name, v, had, nil, false)
			if m.Len() != n {
				t.Errorf("%s: %d keys, were %d", x.Name, m.Len(), n)
			}
		}
		holds(t, x.Name, &zero)
		holds(t, x.Name, &one, "a", "b")
	}
	var m digest.Map
	for _, x := range []struct {
		key, v any
		why    api.Errno
	}{
		{func() {}, 1, api.ErrKind}, {sample.Nobody(), 7, api.ErrNil}, {7, sample.Nobody(), api.ErrKind}, {sample.ListRing(), 7, api.ErrLong}, {7, sample.ListRing(), api.ErrKind}, {sample.Record("A", 1), sample.Record("a", 0), api.ErrName}, {sample.Record("a", 0), sample.Record("A", 1), api.ErrArg},
	} {
		if v, had, e := m.Put(x.key, x.v); v != nil || had || e != x.why || m.Len() != 0 {
			t.Errorf("%T and %T: %v, %v, %d, want %d", x.key, x.v, v, had, e, x.why)
		}
	}
}

// P5.2: MaxItems keys have room and no more; a key that is in it may be put anew.
func TestFull(t *testing.T) {
	m := filled(t, api.MaxItems)
	if m.Len() != 4096 {
		t.Fatal(m.Len())
	}
	for _, key := range append(mixed(), int64(api.MaxItems)) {
		_, there := m.Get(key)
		if there {
			continue
		}
		if v, had, e := m.Put(key, "v"); v != nil || had || e != api.ErrFull || m.Len() != api.MaxItems {
			t.Errorf("%v: %v, %v, %d, %d keys", key, v, had, e, m.Len())
		}
		v, had := m.Get(key)
		answers(t, "Get of what had no room", v, had, nil, false)
	}
	if v, had, e := m.Put("new", func() {}); v != nil || had || e != api.ErrKind {
		t.Error("a value that can't be, ahead of no room:", v, had, e)
	}
	if v, had, e := m.Put(int64(7), "anew"); v != int64(7) || !had || e != api.OK || m.Len() != api.MaxItems {
		t.Error("put anew:", v, had, e)
	}
	if v, had := m.Delete(int64(7)); v != "anew" || !had || m.Len() != api.MaxItems-1 {
		t.Error("Delete:", v, had, m.Len())
	}
	if v, had, e := m.Put(math.NaN(), "v"); v != nil || had || e != api.OK || m.Len() != api.MaxItems {
		t.Error("one has gone, one comes:", v, had, e)
	}
	if v, had, e := m.Put(int64(7), "v"); v != nil || had || e != api.ErrFull {
		t.Error("full again:", v, had, e)
	}
	if v, had := m.Delete("not there"); v != nil || had {
		t.Error(v, had)
	}
	if _, _, e := m.Put(int64(7), "v"); e != api.ErrFull {
		t.Error("full still:", e)
	}
	shown := 0
	e := m.Each(func(key, v any) bool { shown++; return true })
	if e != api.OK || shown != api.MaxItems {
		t.Error(e, shown)
	}
}

// P5.2: what can be at most may be a key and may be kept.
func TestGreatKeys(t *testing.T) {
	var m digest.Map
	for _, v := range sample.Rich() {
		_, there := m.Get(v)
		old, had, e := m.Put(v, v)
		if had != there || e != api.OK || had && !value.Same(old, v) {
			t.Errorf("%T: %v, %d", v, had, e)
		}
		if got, ok := m.Get(v); !ok || !value.Same(got, v) {
			t.Errorf("%T: not kept", v)
		}
	}
}

// Two Maps know nothing of one another.
func TestTwoMaps(t *testing.T) {
	var a, b digest.Map
	a.Put("k", "a")
	b.Put("k", "b")
	b.Delete("j")
	a.Put("j", "a")
	holds(t, "the first", &a, "j", "a", "k", "a")
	holds(t, "the second", &b, "k", "b")
}
