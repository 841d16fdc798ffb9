package index_test

import (
	"fmt"
	"math/rand"
	"slices"
	"testing"

	"tenon/api"
	"tenon/index"
	"tenon/sample"
	"tenon/value"
)

// model is what an index keeps, as plainly as the chapter says it.
type model struct {
	def  api.IndexOf
	way  []any // the way's names and indexes
	kept map[api.Ref][]any
}

// models is definitions of all sorts, of nothing yet.
func models() []*model {
	var l []*model
	for _, class := range []string{"", "p"} {
		for _, w := range []struct {
			text string
			way  []any
		}{{"a", []any{"a"}}, {"a[1]", []any{"a", 1}}, {"b.c", []any{"b", "c"}}, {"b[0].c[0]", []any{"b", 0, "c", 0}}} {
			for _, def := range defs(class, w.text) {
				l = append(l, &model{def, w.way, map[api.Ref][]any{}})
			}
		}
	}
	return l
}

// lies is what lies in fields at a way.
func lies(fields api.Dict, way []any) (any, bool) {
	var v any = fields
	for _, step := range way {
		var under api.Dict
		switch x := v.(type) {
		case api.List:
			if n, ok := step.(int); ok && n < len(x) {
				v = x[n]
				continue
			}
		case api.Dict:
			under = x
		case *api.Record:
			under = x.Fields
		}
		at := slices.IndexFunc(under, func(f api.Field) bool { return f.Name == step })
		if at < 0 {
			return nil, false
		}
		v = under[at].Value
	}
	return v, true
}

// keysOf is what an object comes to that answers by a script, none of whose methods panics.
func (m *model) keysOf(set int, s *sample.Script) (keys []any, of bool, e api.Errno) {
	switch {
	case s.ID == 0:
		return nil, false, api.ErrArg
	case m.def.Class != "" && set&api.IsVersioned != 0 && s.Version == 0:
		return nil, false, api.ErrArg
	case m.def.Class != "" && (set&api.IsVersioned == 0 || s.Class != m.def.Class):
		return nil, false, api.OK
	case set&api.IsIndexed != 0:
		for _, key := range s.Keys {
			if _, e := value.Check(key); e != api.OK {
				return nil, false, e
			}
			if !slices.ContainsFunc(keys, func(k any) bool { return value.Same(k, key) }) {
				keys = append(keys, key)
			}
		}
		slices.SortFunc(keys, func(a, b any) int { n, _ := value.Order(a, b); return n })
		return keys, true, api.OK
	case set&api.IsLazy != 0 && !s.Loaded && s.Fails != api.OK:
		return nil, false, s.Fails
	}
	for _, f := range s.Fields {
		if _, e := value.Check(f.Value); f.Name == m.way[0] && e != api.OK {
			return nil, false, e
		}
	}
	key, is := lies(s.Fields, m.way)
	if !is && m.def.Some {
		return nil, false, api.OK
	}
	return []any{key}, true, api.OK
}

// put is what Put answers; with OK it is done.
func (m *model) put(set int, s *sample.Script) api.Errno {
	keys, of, e := m.keysOf(set, s)
	if e != api.OK {
		return e
	}
	if !of {
		delete(m.kept, s.ID)
		return api.OK
	}
	for _, key := range keys {
		if m.def.Unique && slices.ContainsFunc(m.find(key), func(id api.Ref) bool { return id != s.ID }) {
			return api.ErrTwice
		}
	}
	m.kept[s.ID] = keys
	return api.OK
}

func (m *model) find(key any) []api.Ref {
	var ids []api.Ref
	for id, keys := range m.kept {
		if slices.ContainsFunc(keys, func(k any) bool { return value.Same(k, key) }) {
			ids = append(ids, id)
		}
	}
	slices.Sort(ids)
	return ids
}

// pairs is all pairs for whose keys a function tells true, in order.
func (m *model) pairs(meant func(key any) bool) []api.Found {
	var l []api.Found
	for id, keys := range m.kept {
		for _, key := range keys {
			if meant(key) {
				l = append(l, api.Found{Key: key, ID: id})
			}
		}
	}
	slices.SortFunc(l, func(a, b api.Found) int {
		if n, _ := value.Order(a.Key, b.Key); n != 0 {
			return n
		}
		return int(a.ID) - int(b.ID)
	})
	return l
}

func (m *model) clone() *model {
	c := &model{m.def, m.way, map[api.Ref][]any{}}
	for id, keys := range m.kept {
		c.kept[id] = keys
	}
	return c
}

// someObject is an object of some kind, seldom one that can't be put in.
func someObject(r *rand.Rand) (int, *sample.Script) {
	set := r.Intn(16)
	s := &sample.Script{ID: api.Ref(1 + r.Intn(8)), Class: []string{"p", "p", "p", "q"}[r.Intn(4)], Version: 1 + r.Intn(3), Loaded: r.Intn(2) == 0}
	for range r.Intn(4) {
		s.Keys = append(s.Keys, sample.Anyhow(r.Intn, 2))
	}
	for _, name := range []string{"a", "b"} {
		if r.Intn(4) > 0 {
			s.Fields = append(s.Fields, sample.Field(name, sample.Anyhow(r.Intn, 4)))
		}
	}
	if r.Intn(4) == 0 {
		s.Fields = api.Dict{sample.Field("a", api.List{nil, sample.Anyhow(r.Intn, 1)}), sample.Field("b", api.List{api.Dict{sample.Field("c", api.List{sample.Anyhow(r.Intn, 1)})}})}
	}
	switch r.Intn(40) {
	case 0:
		s.ID = 0
	case 1:
		s.Version = 0
	case 2:
		s.Keys = append(s.Keys, api.List{nil, 7})
	case 3:
		s.Fields = append(api.Dict{sample.Field("a", api.List{sample.Nobody()})}, s.Fields...)
	case 4:
		s.Fails, s.Loaded = api.ErrIdentity, false
	}
	return set, s
}

// mustAgree is that an index tells what the model tells, however it is asked.
func mustAgree(t *testing.T, name any, r *rand.Rand, x *index.Index, m *model) {
	t.Helper()
	want := m.pairs(func(any) bool { return true })
	if l := all(t, x); !samePairs(l, want) || x.Len() != len(want) || x.Def() != m.def {
		t.Fatalf("%v: %+v: %s, want %s", name, m.def, readPairs(l), readPairs(want))
	}
	for id := range api.Ref(10) {
		keys, has := x.Keys(id)
		if l, is := m.kept[id]; has != is || !slices.EqualFunc(keys, l, value.Same) {
			t.Fatalf("%v: Keys(%d): %s, %v, want %s", name, id, sample.Told(api.List(keys)), has, sample.Told(api.List(l)))
		}
	}
	a, b := sample.Anyhow(r.Intn, 2), sample.Anyhow(r.Intn, 2)
	mustFind(t, x, a, m.find(a)...)
	open, shut := r.Intn(4) == 0, r.Intn(4) == 0
	mustShow(t, x, a, b, open, shut, m.pairs(func(key any) bool {
		above, _ := value.Order(key, a)
		below, _ := value.Order(key, b)
		return (open || above >= 0) && (shut || below <= 0)
	})...)
}

// P16.2 to P16.9: objects of all sorts, put and dropped by chance, in indexes of all sorts and their clones.
func TestModel(t *testing.T) {
	did := map[string]int{}
	for i, m := range models() {
		r := rand.New(rand.NewSource(int64(i)))
		type side struct {
			x *index.Index
			m *model
		}
		sides := []side{{fresh(t, m.def), m}}
		for step := range 250 {
			s := sides[r.Intn(len(sides))]
			switch n := r.Intn(12); {
			case n == 0 && len(sides) < 4:
				sides = append(sides, side{s.x.Clone(), s.m.clone()})
			case n <= 2:
				id := api.Ref(r.Intn(10))
				_, had := s.m.kept[id]
				delete(s.m.kept, id)
				mustDrop(t, s.x, id, had)
			default:
				set, script := someObject(r)
				test := s.x.Test(sample.Able(set, &sample.Script{ID: script.ID, Fields: script.Fields, Class: script.Class, Version: script.Version, Keys: script.Keys, Loaded: script.Loaded, Fails: script.Fails}))
				want := s.m.put(set, script)
				put := s.x.Put(sample.Able(set, script))
				did[fmt.Sprint(int(want))]++
				if test != want || put != want {
					t.Fatalf("%d: %+v: Test %d, Put %d, want %d", step, m.def, test, put, want)
				}
			}
			for _, s := range sides {
				mustAgree(t, step, r, s.x, s.m)
			}
		}
		for _, s := range sides {
			did["pairs"] += s.x.Len()
			agrees(t, s.x)
		}
	}
	for name, least := range map[string]int{"0": 4000, "1": 100, "6": 20, "7": 20, "130": 10, "160": 300, "pairs": 300} {
		if did[name] < least {
			t.Errorf("%s: %d times, too little", name, did[name])
		}
	}
}
