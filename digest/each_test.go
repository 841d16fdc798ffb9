package digest_test

import (
	"math/rand"
	"slices"
	"testing"

	"tenon/api"
	"tenon/digest"
	"tenon/sample"
	"tenon/value"
)

// P5.3: the keys in their order with what they keep, however they came.
func TestEachInOrder(t *testing.T) {
	all := sample.Rising()
	r := rand.New(rand.NewSource(3))
	for range 20 {
		var m digest.Map
		for _, i := range r.Perm(len(all)) {
			m.Put(all[i], int64(i))
		}
		var want []any
		for i, key := range all {
			want = append(want, key, int64(i))
		}
		holds(t, "rising", &m, want...)
	}
}

// P5.3: it goes on until false is answered, and then tells OK.
func TestEachStops(t *testing.T) {
	m := filled(t, 10)
	for n := 1; n <= 10; n++ {
		var shown []any
		e := m.Each(func(key, v any) bool { shown = append(shown, key); return len(shown) < n })
		if e != api.OK || len(shown) != n || shown[n-1] != int64(n-1) {
			t.Errorf("false at %d: %d, %v", n, e, shown)
		}
	}
	if m.Len() != 10 {
		t.Error(m.Len())
	}
}

// P5.3: ErrArg of a nil function, whatever is kept.
func TestEachOfNothing(t *testing.T) {
	for _, n := range []int{0, 1, api.MaxItems} {
		m := filled(t, n)
		if e := m.Each(nil); e != api.ErrArg || m.Len() != n {
			t.Error(e, m.Len())
		}
	}
}

// P5.3: a function that panics, with whatever it is and whenever, is caught and not called again; what is kept stays.
func TestEachPanics(t *testing.T) {
	m := filled(t, 5)
	for _, x := range sample.Thrown() {
		for n := 1; n <= 5; n++ {
			calls := 0
			e := m.Each(func(key, v any) bool {
				if calls++; calls == n {
					panic(x)
				}
				return true
			})
			if e != api.ErrPanic || calls != n {
				t.Errorf("%T at %d: %d, %d calls", x, n, e, calls)
			}
		}
	}
	holds(t, "behind panics", m, int64(0), int64(0), int64(1), int64(1), int64(2), int64(2), int64(3), int64(3), int64(4), int64(4))
	if e := m.Each(func(key, v any) bool { return v.(string) == "a mistake" }); e != api.ErrPanic {
		t.Error("Go's own error:", e)
	}
	if e := m.Each(func(key, v any) bool { defer panic("behind"); return false }); e != api.ErrPanic {
		t.Error("behind the answer:", e)
	}
	var none digest.Map
	if e := none.Each(func(key, v any) bool { panic("called") }); e != api.OK {
		t.Error("nobody is called:", e)
	}
	e := m.Each(func(key, v any) bool { m.Put("k", "v"); m.Delete(int64(0)); panic("then") })
	if v, ok := m.Get("k"); e != api.ErrPanic || v != "v" || !ok || m.Len() != 5 {
		t.Error("what was changed ahead of the panic:", e, v, ok, m.Len())
	}
}

// P5.3: what is put and deleted between is not shown by this Each, but by later ones.
func TestEachWhileChanged(t *testing.T) {
	var m digest.Map
	for i, key := range []string{"a", "c", "e", "g"} {
		m.Put(key, int64(i))
	}
	var shown []any
	e := m.Each(func(key, v any) bool {
		shown = append(shown, key, v)
		if key == "c" {
			for _, x := range []struct{ key, old any }{{"b", nil}, {"c", int64(1)}, {"d", nil}, {"e", int64(2)}, {"h", nil}} {
				if old, _, e := m.Put(x.key, "new"); e != api.OK || old != x.old {
					t.Error(x.key, old, e)
				}
			}
			if old, had := m.Delete("a"); old != int64(0) || !had {
				t.Error(old, had)
			}
			if old, had := m.Delete("g"); old != int64(3) || !had || m.Len() != 5 {
				t.Error(old, had, m.Len())
			}
		}
		if got, ok := m.Get("e"); key == "e" && (got != "new" || !ok) {
			t.Error("Get between:", got, ok)
		}
		return true
	})
	if want := []any{"a", int64(0), "c", int64(1), "e", int64(2), "g", int64(3)}; e != api.OK || !slices.Equal(shown, want) {
		t.Error(e, shown)
	}
	holds(t, "later", &m, "b", "new", "c", "new", "d", "new", "e", "new", "h", "new")
}

// P5.3: all may be deleted, a full Map may be filled anew, and one Each may go on within another.
func TestEachWhileTurnedOver(t *testing.T) {
	m := filled(t, api.MaxItems)
	calls := 0
	e := m.Each(func(key, v any) bool {
		if n, ok := key.(int64); !ok || n != int64(calls) || v != key {
			t.Fatal(key, v, calls)
		}
		calls++
		m.Delete(key)
		if _, _, e := m.Put(api.List{key}, v); e != api.OK {
			t.Fatal(e)
		}
		return true
	})
	if e != api.OK || calls != api.MaxItems || m.Len() != api.MaxItems {
		t.Error(e, calls, m.Len())
	}
	var zero digest.Map
	zero.Put("a", "v")
	calls = 0
	e = zero.Each(func(key, v any) bool {
		zero.Delete(key)
		inner := zero.Each(func(key, v any) bool { calls++; return true })
		zero.Put("b", "v")
		inner2 := zero.Each(func(key, v any) bool { calls++; panic("within") })
		return inner == api.OK && inner2 == api.ErrPanic
	})
	if e != api.OK || calls != 1 {
		t.Error(e, calls)
	}
	holds(t, "within", &zero, "b", "v")
}

// P5.3: keys that Go can't hold against one another are put in order, too.
func TestEachOrdersAnything(t *testing.T) {
	var m digest.Map
	for _, v := range values() {
		if _, _, e := m.Put(v, nil); e != api.OK {
			t.Fatal(e)
		}
	}
	var last any
	n := 0
	e := m.Each(func(key, v any) bool {
		if o, e := value.Order(last, key); n > 0 && (o != -1 || e != api.OK) {
			t.Errorf("%v behind %v", key, last)
		}
		last, n = key, n+1
		return v == nil
	})
	if e != api.OK || n != m.Len() {
		t.Error(e, n, m.Len())
	}
}
