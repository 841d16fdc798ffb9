package index_test

import (
	"math"
	"math/rand"
	"testing"

	"tenon/api"
	"tenon/sample"
	"tenon/value"
)

// P16.4, P16.6: keys of each kind, also such as Go can't compare or finds alike, each found by itself alone.
func TestFindAnyKind(t *testing.T) {
	for _, def := range []api.IndexOf{{Way: "k"}, {Way: "k", Unique: true}} {
		rising := sample.Rising()
		x := fresh(t, def)
		for _, i := range rand.New(rand.NewSource(1)).Perm(len(rising)) {
			o := thing(t, api.Ref(i+1), sample.Field("k", rising[i]))
			if i%2 == 0 {
				o = teller(api.Ref(i+1), rising[i])
			}
			mustPut(t, x, o)
		}
		var want []api.Found
		for i, key := range rising {
			mustFind(t, x, key, api.Ref(i+1))
			mustKeep(t, x, api.Ref(i+1), key)
			want = append(want, api.Found{Key: key, ID: api.Ref(i + 1)})
		}
		mustHold(t, def, x, want...)
		y := fresh(t, def)
		mustPut(t, y, teller(1, rising...))
		mustKeep(t, y, 1, rising...)
		for _, key := range rising {
			mustFind(t, y, key, 1)
		}
		if y.Len() != len(rising) {
			t.Error(y.Len())
		}
	}
}

// P16.4: keys at the limits of what can be, and such as are the same though they are held otherwise.
func TestFindRich(t *testing.T) {
	for _, key := range sample.Rich() {
		x := fresh(t, byTag())
		mustFind(t, x, key)
		mustPut(t, x, teller(4, key))
		mustPut(t, x, teller(2, "other", sample.Roomy(key), key))
		c, e := value.Copy(key)
		must(t, "Copy", e, api.OK)
		mustFind(t, x, c, 2, 4)
		mustFind(t, x, sample.Roomy(c), 2, 4)
		mustKeep(t, x, 4, key)
		mustShow(t, x, c, c, false, false, api.Found{Key: key, ID: 2}, api.Found{Key: key, ID: 4})
	}
	x := fresh(t, byTag())
	for i, none := range []any{api.List(nil), api.List{}, api.Dict(nil), api.Dict{}, []byte(nil), []byte{}} {
		mustPut(t, x, teller(api.Ref(i+1), none))
	}
	mustHold(t, "empty ones", x, pairs([]byte{}, 5, []byte{}, 6, api.List{}, 1, api.List{}, 2, api.Dict{}, 3, api.Dict{}, 4)...)
}

// P16.6: floats are told apart by their bits, and from whole numbers.
func TestFindNumbers(t *testing.T) {
	x := fresh(t, byAge())
	numbers := []any{int64(0), int64(1), sample.Bits(0xfff8000000000001), sample.MinusZero(), 0.0, 1.0, math.NaN(), sample.Bits(0x7ff8000000000002)}
	for i, n := range numbers {
		mustPut(t, x, person(api.Ref(i+1), n))
	}
	for i, n := range numbers {
		mustFind(t, x, n, api.Ref(i+1))
		mustFind(t, x, api.List{n})
	}
	for _, n := range []any{int64(2), 2.0, sample.Bits(0xfff8000000000002), math.Inf(1), api.Ref(0), api.Ref(1), "0", "1", false, true, nil} {
		mustFind(t, x, n)
	}
	for _, n := range numbers {
		mustPut(t, x, person(9, n))
		if l, e := x.Find(n); len(l) != 2 || l[1] != 9 || e != api.OK {
			t.Error(n, l, e)
		}
	}
	mustPut(t, x, sample.Able(api.IsVersioned+api.IsIndexed, &sample.Script{ID: 9, Class: "person", Version: 1, Keys: append(numbers, math.NaN(), 0.0)}))
	mustKeep(t, x, 9, numbers...)
}

// P16.4: none and value.Check's error of a key that can't be; nil is a key.
func TestFindWrong(t *testing.T) {
	x := filled(t, 3)
	for _, w := range sample.Wrongs() {
		mustStay(t, w.Name, x, func() {
			if l, e := x.Find(w.V); l != nil || e != w.Why {
				t.Error(w.Name, l, e)
			}
		})
	}
	for _, alien := range []any{10, int32(10), uint64(10), float32(10), []any{}, map[string]int{}, func() {}, struct{}{}, &x, api.Record{}, api.OK, (*int)(nil), make(chan int)} {
		if l, e := x.Find(alien); l != nil || e != api.ErrKind {
			t.Errorf("%T: %v, %d", alien, l, e)
		}
	}
	mustFind(t, x, nil)
	mustPut(t, x, thing(t, 9))
	mustFind(t, x, nil, 9)
}

// P16.4: Keys of what is kept, and of what is not; Len counts pairs.
func TestKeysAndLen(t *testing.T) {
	x := fresh(t, some())
	if x.Len() != 0 {
		t.Error(x.Len())
	}
	mustPut(t, x, teller(1, "b", "a", "b"))
	mustPut(t, x, teller(2, "a"))
	mustPut(t, x, teller(3))
	mustPut(t, x, thing(t, 4))
	mustKeep(t, x, 1, "a", "b")
	mustKeep(t, x, 2, "a")
	mustKeep(t, x, 3)
	mustNotKeep(t, x, 0, 4, 5, 1<<63)
	if x.Len() != 3 {
		t.Error(x.Len())
	}
	mustDrop(t, x, 1, true)
	mustNotKeep(t, x, 1)
	if x.Len() != 1 {
		t.Error(x.Len())
	}
}
