package index_test

import (
	"testing"

	"tenon/api"
	"tenon/index"
	"tenon/sample"
	"tenon/value"
)

// kinds is keys that hold memory, in their order.
func kinds() []any {
	return []any{[]byte{1, 2}, api.List{"a", []byte{3}}, api.List{api.List{nil}}, api.Dict{sample.Field("a", api.List{int64(1)})}, sample.Record("r", 1, sample.Field("a", []byte{4}))}
}

// roomyKinds is likewise, with spare room, in a list with spare room.
func roomyKinds() []any {
	var l []any
	for _, v := range kinds() {
		l = append(l, sample.Roomy(v))
	}
	return append(append(make([]any, 0, 7), l...), "room", "more room")[:5]
}

func mustBeKinds(t *testing.T, name any, x *index.Index, id api.Ref) {
	t.Helper()
	mustKeep(t, x, id, kinds()...)
	for i, key := range kinds() {
		mustFind(t, x, key, id)
		if l := all(t, x); i >= len(l) || !value.Same(l[i].Key, key) || l[i].ID != id {
			t.Errorf("%v: %s", name, readPairs(l))
		}
	}
	mustFind(t, x, "spoilt")
}

// Memory: what an object tells is neither changed nor kept, its spare room included.
func TestHandedIn(t *testing.T) {
	x := fresh(t, byTag())
	keys := roomyKinds()
	mustPut(t, x, teller(1, keys...))
	mustBeKinds(t, "told", x, 1)
	for i, key := range keys {
		if !value.Same(key, kinds()[i]) || !sample.RoomKept(key) {
			t.Error("a key has changed:", sample.Told(key))
		}
	}
	if keys[:7][5] != "room" || keys[:7][6] != "more room" {
		t.Error("the list has changed")
	}
	sample.Spoil(api.List(keys))
	mustBeKinds(t, "spoilt", x, 1)

	for _, key := range roomyKinds() {
		y := fresh(t, api.IndexOf{Way: "a.b[1]"})
		a := sample.Roomy(api.Dict{sample.Field("b", api.List{nil, nil})}).(api.Dict)
		a[0].Value.(api.List)[1] = key
		before, _ := value.Copy(key)
		mustPut(t, y, sample.Able(0, &sample.Script{ID: 1, Fields: api.Dict{sample.Field("a", a)}}))
		if !sample.RoomKept(a) || !value.Same(key, before) {
			t.Error("what the object answers has changed")
		}
		sample.Spoil(a)
		mustHold(t, "of the way", y, api.Found{Key: before, ID: 1})
	}
}

// Memory: what is handed to Find and Range is neither changed nor kept.
func TestAskedFor(t *testing.T) {
	x := fresh(t, byTag())
	mustPut(t, x, teller(1, kinds()...))
	for _, key := range roomyKinds() {
		mustFind(t, x, key, 1)
		if l, e := between(x, key, key, false, false); len(l) != 1 || !value.Same(l[0].Key, key) || e != api.OK {
			t.Error(readPairs(l), e)
		}
		if !sample.RoomKept(key) {
			t.Error("a key has changed:", sample.Told(key))
		}
		sample.Spoil(key)
	}
	mustBeKinds(t, "asked for", x, 1)
}

// Memory: what is told is nobody else's: writing into it changes neither the index, nor a clone, nor another answer.
func TestAnswersApart(t *testing.T) {
	x := fresh(t, byTag())
	twofold := sample.Twofold()
	mustPut(t, x, teller(1, twofold, api.List{twofold}, "k"))
	mustPut(t, x, teller(2, twofold, "k"))
	c := x.Clone()
	ahead := all(t, x)
	for _, y := range []*index.Index{x, c} {
		var told []any
		for range 2 {
			for _, id := range refs(1, 2) {
				keys, _ := y.Keys(id)
				told = append(told, keys...)
			}
			for _, f := range all(t, y) {
				told = append(told, f.Key)
			}
		}
		if i, ok := sample.Apart(told...); !ok {
			t.Error(i, "is shared")
		}
		keys, _ := y.Keys(1)
		sample.Spoil(api.List(keys))
		l, _ := y.Find("k")
		for i := range l[:cap(l)] {
			l[:cap(l)][i] = 99
		}
		mustFind(t, y, "k", 1, 2)
	}
	mustHold(t, "x", x, ahead...)
	mustHold(t, "the clone", c, ahead...)
	agrees(t, x)
}

// P16.5: whoever writes into the key that it is shown changes nothing, of that Range either.
func TestShownSpoilt(t *testing.T) {
	x := fresh(t, byTag())
	mustPut(t, x, teller(1, kinds()...))
	mustPut(t, x, teller(2, kinds()...))
	c := x.Clone()
	n := 0
	e := x.Range(nil, nil, true, true, func(f api.Found) bool {
		if !value.Same(f.Key, kinds()[n/2]) || f.ID != api.Ref(1+n%2) {
			t.Error(n, sample.Told(f.Key), f.ID)
		}
		sample.Spoil(f.Key)
		n++
		return true
	})
	must(t, "Range", e, api.OK)
	var want []api.Found
	for _, key := range kinds() {
		want = append(want, api.Found{Key: key, ID: 1}, api.Found{Key: key, ID: 2})
	}
	mustHold(t, "x", x, want...)
	mustHold(t, "the clone", c, want...)
}

// Memory: identities that Find told, spare room too, are no part of the index, though it grows and shrinks behind that.
func TestFoundApart(t *testing.T) {
	x := fresh(t, byTag())
	for id := range api.Ref(20) {
		mustPut(t, x, aged(id+1, nil))
		l, _ := x.Find(nil)
		l = append(l, 77, 78)
		for i := range l[:cap(l)] {
			l[:cap(l)][i] = 99
		}
	}
	mustFind(t, x, nil, upTo(20)...)
	c := x.Clone()
	for id := range api.Ref(19) {
		mustDrop(t, x, id+1, true)
		l, _ := x.Find(nil)
		clear(l[:cap(l)])
		mustPut(t, c, teller(id+1))
	}
	mustFind(t, x, nil, 20)
	mustFind(t, c, nil, 20)
}
