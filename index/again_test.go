package index_test

import (
	"testing"

	"tenon/api"
	"tenon/sample"
)

// P16.2: an identity that is put anew has the keys of the last Put, and no others.
func TestPutAgain(t *testing.T) {
	x := fresh(t, byTag())
	for _, id := range refs(1, 2, 3) {
		mustPut(t, x, teller(id, "a", "b"))
	}
	mustHold(t, "three", x, pairs("a", 1, "a", 2, "a", 3, "b", 1, "b", 2, "b", 3)...)
	mustPut(t, x, teller(2, "b", "a"))
	mustHold(t, "the same ones", x, pairs("a", 1, "a", 2, "a", 3, "b", 1, "b", 2, "b", 3)...)
	mustPut(t, x, teller(2, "c", "b"))
	mustHold(t, "others", x, pairs("a", 1, "a", 3, "b", 1, "b", 2, "b", 3, "c", 2)...)
	mustPut(t, x, teller(1, "0"))
	mustHold(t, "another one", x, pairs("0", 1, "a", 3, "b", 2, "b", 3, "c", 2)...)
	mustFind(t, x, "d")
	mustPut(t, x, teller(3))
	mustHold(t, "none", x, pairs("0", 1, "b", 2, "c", 2)...)
	mustFind(t, x, "a")
	mustKeep(t, x, 3)
	mustPut(t, x, thing(t, 2, sample.Field("tags", api.List{"c"})))
	mustHold(t, "of the way", x, pairs("0", 1, "c", 2)...)
	mustPut(t, x, thing(t, 2))
	mustHold(t, "nothing there", x, pairs(nil, 2, "0", 1)...)
}

// P16.2: identities of one key rise, however they were put in.
func TestPutOneKey(t *testing.T) {
	x := fresh(t, byTag())
	for _, id := range refs(5, 1, 4, 2, 3, 1<<63, 1<<40) {
		mustPut(t, x, aged(id, nil))
	}
	mustFind(t, x, nil, 1, 2, 3, 4, 5, 1<<40, 1<<63)
	for _, id := range refs(3, 1, 1<<63) {
		mustDrop(t, x, id, true)
	}
	mustFind(t, x, nil, 2, 4, 5, 1<<40)
}

// P16.2, P16.7: in an index that is Unique another one's key is refused, its own is not.
func TestPutUnique(t *testing.T) {
	x := fresh(t, uniqueAges())
	mustPut(t, x, aged(7, int64(30)))
	mustPut(t, x, aged(8, 30.0))
	mustNotPut(t, "another one", x, aged(9, int64(30)), api.ErrTwice)
	mustNotPut(t, "one that is in", x, aged(8, int64(30)), api.ErrTwice)
	mustPut(t, x, aged(7, int64(30)))
	mustPut(t, x, teller(7, int64(30), "a", "b", "a"))
	mustHold(t, "several", x, pairs(int64(30), 7, 30.0, 8, "a", 7, "b", 7)...)
	for _, keys := range [][]any{{"a"}, {"b"}, {"c", "b"}, {"b", nil}, {30.0, "b"}, {"0", int64(30), "z"}} {
		mustNotPut(t, keys, x, teller(8, keys...), api.ErrTwice)
		mustNotPut(t, keys, x, teller(9, keys...), api.ErrTwice)
	}
	mustPut(t, x, teller(8, 30.0, "A", []byte("a"), api.List{"a"}))
	mustPut(t, x, teller(7, "a"))
	mustPut(t, x, teller(8, "b", int64(30)))
	mustHold(t, "handed on", x, pairs(int64(30), 8, "a", 7, "b", 8)...)
	mustDrop(t, x, 7, true)
	mustPut(t, x, teller(9, "a"))
	mustNotPut(t, "7 once more", x, teller(7, "a"), api.ErrTwice)
	mustHold(t, "9 has it", x, pairs(int64(30), 8, "a", 9, "b", 8)...)
}

// P16.7: nil is a key as any other: two of which nothing lies at the way can't both be in, but with Some.
func TestPutUniqueNil(t *testing.T) {
	x := fresh(t, uniqueAges())
	mustPut(t, x, thing(t, 1))
	mustNotPut(t, "nothing there", x, thing(t, 2), api.ErrTwice)
	mustNotPut(t, "nil", x, aged(2, nil), api.ErrTwice)
	mustNotPut(t, "told", x, teller(2, nil), api.ErrTwice)
	mustPut(t, x, thing(t, 1))
	x = fresh(t, api.IndexOf{Way: "age", Unique: true, Some: true})
	for _, id := range refs(1, 2, 3) {
		mustPut(t, x, thing(t, id))
	}
	mustPut(t, x, aged(2, nil))
	mustNotPut(t, "nil", x, aged(1, nil), api.ErrTwice)
	mustPut(t, x, thing(t, 2))
	mustPut(t, x, aged(1, nil))
	mustHold(t, "one", x, pairs(nil, 1)...)
}

// P16.2, P16.9: an object that is of the index no more is taken out of one that is Unique, whoever has its keys.
func TestPutNoMore(t *testing.T) {
	def := api.IndexOf{Class: "person", Way: "age", Unique: true, Some: true}
	x := fresh(t, def)
	for id := range api.Ref(4) {
		mustPut(t, x, person(id+1, int64(id)))
	}
	mustPut(t, x, sample.Able(api.IsVersioned, &sample.Script{ID: 1, Class: "dog", Version: 1, Fields: api.Dict{sample.Field("age", int64(2))}}))
	mustPut(t, x, aged(2, int64(2)))
	mustPut(t, x, sample.Able(api.IsVersioned, &sample.Script{ID: 3, Class: "person", Version: 9}))
	mustHold(t, "one is left", x, pairs(int64(3), 4)...)
	mustNotKeep(t, x, 1, 2, 3)
	mustPut(t, x, person(1, int64(2)))
	mustHold(t, "again", x, pairs(int64(2), 1, int64(3), 4)...)
}

// P16.2: MaxHeap identities, and no more; what was kept of an identity makes room for what comes in its place.
func TestPutMostIdentities(t *testing.T) {
	for _, unique := range []bool{false, true} {
		x := fresh(t, api.IndexOf{Class: "person", Way: "age", Unique: unique})
		able := func(id api.Ref, keys ...any) api.Object {
			return sample.Able(api.IsVersioned+api.IsIndexed, &sample.Script{ID: id, Class: "person", Version: 1, Keys: keys})
		}
		for i := range api.MaxHeap {
			id := api.Ref(i + 1)
			switch i % 3 {
			case 0:
				mustPut(t, x, able(id))
			case 1:
				mustPut(t, x, able(id, int64(i), float64(i)))
			default:
				mustPut(t, x, person(id, int64(i)))
			}
		}
		most := x.Len()
		mustNotPut(t, "one more", x, person(9999, "x"), api.ErrFull)
		mustNotPut(t, "one more, without keys", x, able(9999), api.ErrFull)
		wrong := api.ErrFull
		if unique {
			wrong = api.ErrTwice
		}
		mustNotPut(t, "one more, with another one's key", x, able(9999, "x", int64(2)), wrong)
		mustNotPut(t, "one more that can't be", x, able(9999, 7), api.ErrKind)
		mustPut(t, x, aged(9999, "x")) // of no class
		mustPut(t, x, able(1, "x", "y"))
		mustPut(t, x, able(2))
		if x.Len() != most {
			t.Error(x.Len(), most)
		}
		mustNotPut(t, "still one more", x, able(9999), api.ErrFull)
		mustPut(t, x, aged(3, "of no class any more"))
		mustNotKeep(t, x, 3, 9999)
		mustPut(t, x, able(9999))
		mustNotPut(t, "3 again", x, person(3, int64(2)), api.ErrFull)
		mustDrop(t, x, 2, true)
		mustPut(t, x, person(3, int64(2)))
		mustNotPut(t, "2 again", x, able(2), api.ErrFull)
		mustKeep(t, x, 1, "x", "y")
		mustKeep(t, x, 9999)
		mustKeep(t, x, 3, int64(2))
		mustFind(t, x, int64(2), 3)
	}
}

// ints is keys: ints from one up to another one.
func ints(from, to int) []any {
	var l []any
	for i := from; i < to; i++ {
		l = append(l, int64(i))
	}
	return l
}

// P16.2: MaxNodes pairs, and no more, likewise.
func TestPutMostPairs(t *testing.T) {
	for _, unique := range []bool{false, true} {
		x := fresh(t, api.IndexOf{Way: "age", Unique: unique})
		for i := range 4 {
			mustPut(t, x, teller(api.Ref(i+1), ints(i*api.MaxItems, (i+1)*api.MaxItems)...))
		}
		if x.Len() != api.MaxNodes {
			t.Fatal(x.Len())
		}
		mustNotPut(t, "one more", x, teller(5, "x"), api.ErrFull)
		mustNotPut(t, "one more, of the way", x, thing(t, 5), api.ErrFull)
		wrong := api.ErrFull
		if unique {
			wrong = api.ErrTwice
		}
		mustNotPut(t, "another one's", x, teller(5, int64(9), "x"), wrong)
		mustPut(t, x, teller(5))
		mustPut(t, x, teller(2, ints(20000, 20000+api.MaxItems)...))
		mustFind(t, x, int64(api.MaxItems))
		mustFind(t, x, int64(20000+api.MaxItems-1), 2)
		mustNotPut(t, "still one more", x, teller(5, "x"), api.ErrFull)
		mustPut(t, x, teller(2, ints(20000, 20000+api.MaxItems-1)...))
		mustNotPut(t, "two more", x, teller(5, "x", "y"), api.ErrFull)
		mustPut(t, x, teller(5, "x", "x"))
		mustNotPut(t, "and one more", x, teller(2, ints(20000, 20000+api.MaxItems)...), api.ErrFull)
		mustPut(t, x, teller(5, "z"))
		mustDrop(t, x, 4, true)
		mustPut(t, x, teller(6, ints(30000, 30000+api.MaxItems)...))
		mustNotPut(t, "once more", x, teller(7, "w"), api.ErrFull)
		if x.Len() != api.MaxNodes {
			t.Error(unique, x.Len())
		}
	}
}
