package index_test

import (
	"math/rand"
	"slices"
	"testing"

	"tenon/api"
	"tenon/index"
	"tenon/sample"
	"tenon/value"
)

// P16.5: ErrArg of a nil function ahead of what the keys are; then from's error, then to's; of a side that is free none.
func TestRangeWrong(t *testing.T) {
	x := filled(t, 3)
	never := func(api.Found) bool { t.Error("called"); return true }
	for _, w := range sample.Wrongs() {
		mustStay(t, w.Name, x, func() {
			for i := range 4 {
				must(t, "nil", x.Range(w.V, w.V, i&1 != 0, i&2 != 0, nil), api.ErrArg)
			}
			must(t, w.Name, x.Range(w.V, nil, false, false, never), w.Why)
			must(t, w.Name, x.Range(w.V, nil, false, true, never), w.Why)
			must(t, w.Name, x.Range(nil, w.V, false, false, never), w.Why)
			must(t, w.Name, x.Range(nil, w.V, true, false, never), w.Why)
			must(t, w.Name, x.Range(w.V, 7, false, true, never), w.Why)
			must(t, w.Name, x.Range(7, w.V, true, false, never), w.Why)
			must(t, w.Name, x.Range(w.V, sample.Nobody(), false, false, never), w.Why)
			must(t, w.Name, x.Range(w.V, 7, false, false, never), w.Why)
			must(t, w.Name, x.Range(w.V, w.V, true, false, never), w.Why)
			must(t, w.Name, x.Range(w.V, w.V, false, true, never), w.Why)
		})
		mustShow(t, x, w.V, w.V, true, true, pairs(int64(10), 1, int64(20), 2, int64(30), 3)...)
		mustShow(t, x, w.V, int64(20), true, false, pairs(int64(10), 1, int64(20), 2)...)
		mustShow(t, x, int64(20), w.V, false, true, pairs(int64(20), 2, int64(30), 3)...)
	}
	empty := fresh(t, byAge())
	must(t, "empty", empty.Range(nil, nil, true, true, nil), api.ErrArg)
	must(t, "empty", empty.Range(7, nil, false, true, never), api.ErrKind)
	must(t, "empty", empty.Range(nil, 7, true, false, never), api.ErrKind)
	must(t, "empty", empty.Range(nil, 7, true, true, never), api.OK)
}

// P16.5: open, shut, both, neither; the ends themselves, between keys, beyond both ends, from above to.
func TestRange(t *testing.T) {
	x := filled(t, 3)
	mustPut(t, x, teller(2, int64(10), int64(20), int64(30))) // one key of several
	ten, twenty, thirty := pairs(int64(10), 1, int64(10), 2), pairs(int64(20), 2), pairs(int64(30), 2, int64(30), 3)
	whole := slices.Concat(ten, twenty, thirty)
	for _, w := range []struct {
		from, to   int64
		open, shut bool
		want       []api.Found
	}{
		{10, 30, false, false, whole}, {9, 31, false, false, whole}, {99, 0, true, true, whole}, {10, 0, false, true, whole}, {99, 30, true, false, whole},
		{10, 10, false, false, ten}, {20, 20, false, false, twenty}, {30, 30, false, false, thirty}, {11, 29, false, false, twenty}, {10, 20, false, false, slices.Concat(ten, twenty)}, {20, 30, false, false, slices.Concat(twenty, thirty)},
		{10, 29, false, false, slices.Concat(ten, twenty)}, {11, 30, false, false, slices.Concat(twenty, thirty)},
		{99, 10, true, false, ten}, {99, 19, true, false, ten}, {99, 20, true, false, slices.Concat(ten, twenty)}, {30, 0, false, true, thirty}, {21, 0, false, true, thirty}, {20, 0, false, true, slices.Concat(twenty, thirty)},
		{30, 10, false, false, nil}, {30, 20, false, false, nil}, {20, 10, false, false, nil}, {31, 9, false, false, nil}, {21, 20, false, false, nil},
		{11, 19, false, false, nil}, {15, 15, false, false, nil}, {0, 9, false, false, nil}, {31, 99, false, false, nil}, {99, 9, true, false, nil}, {31, 0, false, true, nil},
	} {
		mustShow(t, x, w.from, w.to, w.open, w.shut, w.want...)
	}
	mustShow(t, x, nil, nil, false, false)
	mustShow(t, x, nil, int64(10), false, false, ten...)
	mustShow(t, x, nil, 30.0, false, false, whole...)
	mustShow(t, x, 0.0, nil, false, true)
	mustShow(t, x, int64(20), "", false, false, slices.Concat(twenty, thirty)...)
}

// P16.5, P16.8: keys of all kinds go by value.Order; from each to each tells those between.
func TestRangeAnyKind(t *testing.T) {
	rising := sample.Rising()
	x := fresh(t, byTag())
	for _, i := range rand.New(rand.NewSource(2)).Perm(len(rising)) {
		if i%3 > 0 {
			mustPut(t, x, teller(api.Ref(i), rising[i]))
		}
	}
	for a := range rising {
		for b := range rising {
			var want []api.Found
			for i := a; i <= b; i++ {
				if i%3 > 0 {
					want = append(want, api.Found{Key: rising[i], ID: api.Ref(i)})
				}
			}
			if l, e := between(x, rising[a], rising[b], false, false); !samePairs(l, want) || e != api.OK {
				t.Fatalf("from %s to %s: %s", sample.Told(rising[a]), sample.Told(rising[b]), readPairs(l))
			}
		}
	}
}

// P16.5: false at each place ends it there, with OK; true at the end is OK, too.
func TestRangeStops(t *testing.T) {
	x := filled(t, 9)
	for stop := range 9 {
		calls := 0
		e := x.Range(int64(20), nil, false, true, func(f api.Found) bool {
			calls++
			return f.ID != api.Ref(stop+1)
		})
		want := stop
		if stop == 0 {
			want = 8
		}
		if calls != want || e != api.OK {
			t.Error(stop, calls, e)
		}
	}
}

// P16.5: a panic at each place, with whatever it is, is ErrPanic, and the function is called no more.
func TestRangePanics(t *testing.T) {
	x := filled(t, 5)
	for _, thrown := range sample.Thrown() {
		for at := 1; at <= 5; at++ {
			calls := 0
			mustStay(t, "panic", x, func() {
				e := x.Range(nil, nil, true, true, func(f api.Found) bool {
					if calls++; calls == at {
						panic(thrown)
					}
					return true
				})
				if calls != at || e != api.ErrPanic {
					t.Errorf("%T at %d: %d calls, %d", thrown, at, calls, e)
				}
			})
		}
	}
	must(t, "behind false", x.Range(nil, nil, true, true, func(api.Found) bool { defer panic("behind"); return false }), api.ErrPanic)
	must(t, "nobody is called", x.Range(int64(51), nil, false, true, func(api.Found) bool { panic("called") }), api.OK)
	must(t, "Go's own", x.Range(nil, nil, true, true, func(f api.Found) bool { return f.Key.(string) == "a mistake" }), api.ErrPanic)
	must(t, "within a Range that panics", x.Range(nil, nil, true, true, func(api.Found) bool {
		return x.Range(nil, nil, true, true, func(api.Found) bool { panic("inner") }) == api.ErrPanic
	}), api.OK)
}

// P16.5: Range goes through what was kept when it was called, whatever the function does to the index; later calls tell what is so then.
func TestRangeWhileChanged(t *testing.T) {
	for at := range 5 {
		x := filled(t, 5)
		want := all(t, x)
		var shown []api.Found
		e := x.Range(nil, nil, true, true, func(f api.Found) bool {
			if len(shown) == at {
				mustPut(t, x, teller(9, int64(5), int64(25), int64(60)))
				mustPut(t, x, teller(3, int64(10), "new"))
				mustPut(t, x, teller(5))
				mustDrop(t, x, 1, true)
				mustDrop(t, x, 4, true)
			}
			shown = append(shown, f)
			return true
		})
		if !samePairs(shown, want) || e != api.OK {
			t.Error(at, readPairs(shown), e)
		}
		mustHold(t, "later", x, pairs(int64(5), 9, int64(10), 3, int64(20), 2, int64(25), 9, int64(60), 9, "new", 3)...)
		mustKeep(t, x, 5)
	}
}

// P16.5: all may go while it is shown, and come again; one Range may go on within another.
func TestRangeWhileTurnedOver(t *testing.T) {
	x := filled(t, 30)
	calls, inner := 0, 0
	e := x.Range(nil, nil, true, true, func(f api.Found) bool {
		calls++
		mustDrop(t, x, f.ID, true)
		mustPut(t, x, teller(f.ID, api.List{f.Key}))
		must(t, "within", x.Range(int64(0), 0.0, false, false, func(api.Found) bool { inner++; return true }), api.OK)
		return true
	})
	if calls != 30 || inner != 29*30/2 || e != api.OK || x.Len() != 30 {
		t.Error(calls, inner, e, x.Len())
	}
	calls = 0
	e = x.Range(nil, nil, true, true, func(f api.Found) bool {
		for id := range api.Ref(30) {
			x.Drop(id + 1)
		}
		calls++
		return true
	})
	if calls != 30 || e != api.OK || x.Len() != 0 {
		t.Error(calls, e, x.Len())
	}
}

// P16.5, P16.8: the bounds are what they were when it was called, though the function writes into them.
func TestRangeBoundsSpoilt(t *testing.T) {
	x := fresh(t, byTag())
	for i := range 9 {
		mustPut(t, x, teller(api.Ref(i+1), api.List{int64(i)}))
	}
	from, to := api.List{int64(2)}, api.List{int64(6)}
	var ids []api.Ref
	e := x.Range(from, to, false, false, func(f api.Found) bool {
		from[0], to[0] = int64(8), int64(0)
		ids = append(ids, f.ID)
		return true
	})
	if !slices.Equal(ids, refs(3, 4, 5, 6, 7)) || e != api.OK {
		t.Error(ids, e)
	}
}

// P16.8: what Range tells of the keys between is what Find tells of each, Len is how many pairs there are.
func TestRangeAndFind(t *testing.T) {
	r := rand.New(rand.NewSource(4))
	x := fresh(t, byTag())
	for id := range api.Ref(40) {
		var keys []any
		for range r.Intn(6) {
			keys = append(keys, sample.Anyhow(r.Intn, 2))
		}
		mustPut(t, x, teller(id+1, keys...))
	}
	agrees(t, x)
	for range 200 {
		a, b := sample.Anyhow(r.Intn, 2), sample.Anyhow(r.Intn, 2)
		var want []api.Found
		for _, f := range all(t, x) {
			above, _ := value.Order(f.Key, a)
			below, _ := value.Order(f.Key, b)
			if above >= 0 && below <= 0 {
				want = append(want, f)
			}
		}
		mustShow(t, x, a, b, false, false, want...)
	}
}

// agrees is that all that an index tells is one and the same: pairs in order, whom Find tells, Keys, Len; of one that is Unique no key has two.
func agrees(t *testing.T, x *index.Index) {
	t.Helper()
	l := all(t, x)
	for i := 1; i < len(l); i++ {
		n, e := value.Order(l[i-1].Key, l[i].Key)
		if e != api.OK || n > 0 || n == 0 && (l[i-1].ID >= l[i].ID || x.Def().Unique) {
			t.Errorf("%s %d ahead of %s %d", sample.Told(l[i-1].Key), l[i-1].ID, sample.Told(l[i].Key), l[i].ID)
		}
	}
	mustHold(t, "agrees", x, l...)
}
