package digest_test

import (
	"math/rand"
	"slices"
	"testing"

	"tenon/api"
	"tenon/digest"
	"tenon/sample"
	"tenon/value"
)

// model is a map as the chapter tells it, as plainly as can be: keys and values by turns in a list that is gone through.
type model struct{ l []any }

func (m *model) at(key any) int {
	for i := 0; i < len(m.l); i += 2 {
		if value.Same(m.l[i], key) {
			return i
		}
	}
	return -1
}

func (m *model) get(key any) (any, bool) {
	if i := m.at(key); i >= 0 {
		return m.l[i+1], true
	}
	return nil, false
}

// put keeps the keys in their order.
func (m *model) put(key, v any) (any, bool) {
	old, had := m.delete(key)
	i := 0
	for i < len(m.l) {
		if n, _ := value.Order(m.l[i], key); n > 0 {
			break
		}
		i += 2
	}
	m.l = slices.Insert(m.l, i, copied(key), copied(v))
	return old, had
}

func (m *model) delete(key any) (any, bool) {
	i := m.at(key)
	if i < 0 {
		return nil, false
	}
	old := m.l[i+1]
	m.l = slices.Delete(m.l, i, i+2)
	return old, true
}

// P5.6: whatever is put, got and deleted, the Map tells what was put last under each key; though all that goes in and comes out is written into.
func TestMapAsTheModel(t *testing.T) {
	for seed := range int64(30) {
		r := rand.New(rand.NewSource(seed))
		var m digest.Map
		var plain model
		for range 400 {
			key, v := sample.Roomy(sample.Anyhow(r.Intn, 3)), sample.Roomy(sample.Anyhow(r.Intn, 3))
			what, had, wantHad := "", false, false
			var old, want any
			switch r.Intn(4) {
			case 0, 1:
				var e api.Errno
				what = "Put"
				want, wantHad = plain.put(key, v)
				if old, had, e = m.Put(key, v); e != api.OK {
					t.Fatal(e)
				}
			case 2:
				what = "Get"
				want, wantHad = plain.get(key)
				old, had = m.Get(key)
			case 3:
				what = "Delete"
				want, wantHad = plain.delete(key)
				old, had = m.Delete(key)
			}
			answers(t, what, old, had, want, wantHad)
			sample.Spoil(key)
			sample.Spoil(v)
			sample.Spoil(old)
		}
		holds(t, "at the end", &m, plain.l...)
		if t.Failed() {
			t.Fatal("seed", seed)
		}
	}
}

// P5.6: in whatever order the keys came, and whatever went between, the Map comes to the same.
func TestMapHoweverItCame(t *testing.T) {
	all := mixed()
	r := rand.New(rand.NewSource(6))
	var want []any
	for i, key := range all {
		want = append(want, key, all[len(all)-1-i])
	}
	for range 20 {
		var m digest.Map
		for _, i := range r.Perm(len(all)) {
			m.Put(all[i], "first")
			if r.Intn(2) == 0 {
				m.Delete(all[r.Intn(len(all))])
			}
		}
		for _, i := range r.Perm(len(all)) {
			m.Put(all[i], all[len(all)-1-i])
		}
		holds(t, "in another order", &m, want...)
	}
}
