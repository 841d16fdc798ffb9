package index_test

import (
	"fmt"
	"slices"
	"testing"

	"tenon/api"
	"tenon/index"
	"tenon/object"
	"tenon/sample"
)

// defs is a definition with and without Unique and Some.
func defs(class, way string) []api.IndexOf {
	var l []api.IndexOf
	for i := range 4 {
		l = append(l, api.IndexOf{Class: class, Way: way, Unique: i&1 != 0, Some: i&2 != 0})
	}
	return l
}

// of7 is an index in which something is kept of 7 and 8 already.
func of7(t *testing.T, def api.IndexOf) *index.Index {
	t.Helper()
	x := fresh(t, def)
	for _, s := range []*sample.Script{{ID: 7, Keys: []any{"x", "y"}}, {ID: 8, Keys: []any{nil}}} {
		s.Class, s.Version = def.Class, 1
		mustPut(t, x, sample.Able(api.IsVersioned+api.IsIndexed, s))
	}
	return x
}

// P16.2: what is nothing, or a nil Thing, is refused by every index; a foreign nil is whatever its methods do.
func TestPutNil(t *testing.T) {
	var hollow *object.Thing
	for _, class := range []string{"", "person", "blunt"} {
		for _, def := range defs(class, "a") {
			x := of7(t, def)
			mustNotPut(t, "nothing", x, nil, api.ErrNil)
			mustNotPut(t, "hollow", x, hollow, api.ErrNil)
			mustNotPut(t, "sharp", x, (*sample.Sharp)(nil), api.ErrPanic)
			mustPut(t, x, (*sample.Blunt)(nil))
			if keys, has := x.Keys(9); len(keys) > 0 || has != (class != "person") {
				t.Error(def, keys, has)
			}
		}
	}
}

// P16.2: an identity that is 0, or panics, with whatever it is, is told ahead of all else that is wrong.
func TestPutIdentity(t *testing.T) {
	for _, set := range []int{0, api.IsVersioned, api.IsIndexed, 15} {
		for _, class := range []string{"", "person"} {
			x := of7(t, api.IndexOf{Class: class, Way: "a"})
			s := &sample.Script{Class: "A", Keys: []any{7}, Fails: api.ErrFull}
			mustNotPut(t, "identity 0", x, sample.Able(set, s), api.ErrArg)
			for _, thrown := range sample.Thrown() {
				s.ID, s.Meanwhile = 7, func(string) { panic(thrown) }
				mustNotPut(t, fmt.Sprintf("panics with %T", thrown), x, sample.Able(set, s), api.ErrPanic)
			}
			s.Meanwhile = nil
			if !slices.Equal(slices.Compact(s.Log), []string{"ID"}) || len(s.Log) != 2+2*len(sample.Thrown()) {
				t.Error(set, class, s.Log)
			}
		}
	}
}

// P16.2: of a class alone: another class, and none, is not of the index, nor is what was kept of its identity.
func TestPutClass(t *testing.T) {
	for _, def := range defs("person", "age") {
		for set := range 16 {
			for _, class := range []string{"person", "persons", "perso", "a"} {
				s := &sample.Script{ID: 7, Class: class, Version: api.MaxVersion, Keys: []any{int64(3)}, Fields: api.Dict{sample.Field("age", int64(3))}}
				x := of7(t, def)
				mustPut(t, x, sample.Able(set, s))
				if set&api.IsVersioned != 0 && class == "person" {
					mustHold(t, set, x, pairs(nil, 8, int64(3), 7)...)
				} else {
					mustHold(t, set, x, pairs(nil, 8)...)
					mustNotKeep(t, x, 7)
				}
			}
		}
		x := of7(t, def)
		mustPut(t, x, thing(t, 7, sample.Field("age", int64(3))))
		mustHold(t, "a thing", x, pairs(nil, 8)...)
	}
}

// P16.2: VersionOf's error, of whatever class; an index of none does not ask for it.
func TestPutVersionWrong(t *testing.T) {
	for _, w := range []struct {
		class   string
		version int
		want    api.Errno
	}{
		{"person", 0, api.ErrArg}, {"person", -1, api.ErrArg}, {"person", api.MaxVersion + 1, api.ErrArg}, {"other", 0, api.ErrArg},
		{"", 1, api.ErrName}, {"Person", 1, api.ErrName}, {"", 0, api.ErrName},
	} {
		for _, set := range []int{api.IsVersioned, api.IsVersioned + api.IsIndexed} {
			s := &sample.Script{ID: 7, Class: w.class, Version: w.version, Keys: []any{7}, Fields: api.Dict{sample.Field("age", 7)}}
			mustNotPut(t, w.class, of7(t, byAge()), sample.Able(set, s), w.want)
			s.Keys, s.Fields[0].Value = []any{"k"}, "k"
			x := of7(t, api.IndexOf{Way: "age"})
			mustPut(t, x, sample.Able(set, s))
			mustHold(t, w.class, x, pairs(nil, 8, "k", 7)...)
		}
	}
	for _, method := range []string{"Class", "Version"} {
		for _, thrown := range sample.Thrown() {
			s := &sample.Script{ID: 7, Class: "other", Version: 1, Keys: []any{7}}
			s.Meanwhile = panicsIn(method, thrown)
			mustNotPut(t, method, of7(t, byAge()), sample.Able(15, s), api.ErrPanic)
		}
	}
}

// panicsIn panics in a method alone.
func panicsIn(method string, thrown any) func(string) {
	return func(m string) {
		if m == method {
			panic(thrown)
		}
	}
}

// P16.2: an object that is Indexed has the keys that it tells, each once, in their order, whatever lies at the way.
func TestPutTelling(t *testing.T) {
	for _, def := range defs("", "a") {
		for _, set := range []int{2, 3, 6, 7, 10, 11, 14, 15} {
			x := fresh(t, def)
			s := &sample.Script{ID: 7, Keys: []any{"b", int64(1), "a", "b", nil, int64(1), api.List{}, "b", 1.0, true}, Fields: api.Dict{sample.Field("a", "not this")}, Fails: api.ErrFull}
			mustPut(t, x, sample.Able(set, s))
			mustKeep(t, x, 7, nil, true, int64(1), 1.0, "a", "b", api.List{})
			mustHold(t, set, x, pairs(nil, 7, true, 7, int64(1), 7, 1.0, 7, "a", 7, "b", 7, api.List{}, 7)...)
			mustFind(t, x, "not this")
			s.Keys = []any{"b"}
			mustPut(t, x, sample.Able(set, s))
			mustHold(t, "one", x, pairs("b", 7)...)
		}
	}
}

// P16.2: one that is Indexed and tells no keys is of the index, with none.
func TestPutTellingNone(t *testing.T) {
	for _, def := range defs("", "age") {
		for _, none := range [][]any{nil, {}} {
			x := of7(t, def)
			mustPut(t, x, teller(7, none...))
			mustPut(t, x, teller(9, none...))
			mustHold(t, def, x, pairs(nil, 8)...)
			mustKeep(t, x, 7)
			mustKeep(t, x, 9)
			mustNotKeep(t, x, 10)
			mustDrop(t, x, 9, true)
			mustDrop(t, x, 9, false)
			mustNotKeep(t, x, 9)
		}
	}
}

// P16.2: KeysOf's error: keys that can't be, at each place; too many; a panic.
func TestPutTellingWrong(t *testing.T) {
	for _, def := range defs("", "age") {
		x := of7(t, def)
		for _, w := range sample.Wrongs() {
			mustNotPut(t, w.Name, x, teller(7, w.V), w.Why)
			mustNotPut(t, w.Name+", last", x, teller(7, "a", nil, w.V), w.Why)
			mustNotPut(t, w.Name+", first", x, teller(7, w.V, "x", sample.Nobody(), 7), w.Why)
		}
		mustNotPut(t, "too many", x, teller(7, make([]any, api.MaxItems+1)...), api.ErrLong)
		mustNotPut(t, "too many, that can't be", x, teller(7, append(make([]any, api.MaxItems), 7)...), api.ErrLong)
		for _, thrown := range sample.Thrown() {
			mustNotPut(t, "panics", x, sample.Able(api.IsIndexed, &sample.Script{ID: 7, Meanwhile: panicsIn("Keys", thrown)}), api.ErrPanic)
		}
		mustPut(t, x, teller(7, slices.Repeat([]any{"k"}, api.MaxItems)...))
		mustKeep(t, x, 7, "k")
	}
}

// P16.2: else it has the key that lies at the way, as deep as that leads.
func TestPutWay(t *testing.T) {
	deep := sample.WithinFields(api.MaxDepth, "deepest")
	v := api.Dict{sample.Field("b", api.List{nil, api.List{"k"}, sample.Record("r", 2, sample.Field("c", api.List{1.5}))})}
	for _, w := range []struct {
		way string
		key any
	}{
		{"a", v}, {"a.b", v[0].Value}, {"a.b[0]", nil}, {"a.b[1]", api.List{"k"}}, {"a.b[1][0]", "k"}, {"a.b[2]", sample.Record("r", 2, sample.Field("c", api.List{1.5}))}, {"a.b[2].c", api.List{1.5}}, {"a.b[2].c[0]", 1.5},
		{"d", deep}, {"e[4095]", "last"}, {"nil", true}, {"f", nil},
	} {
		for _, def := range defs("", w.way) {
			x := fresh(t, def)
			fields := api.Dict{sample.Field("a", v), sample.Field("d", deep), sample.Field("e", append(sample.Items(api.MaxItems-1), "last")), sample.Field("f", nil), sample.Field("nil", true)}
			mustPut(t, x, sample.Able(0, &sample.Script{ID: 7, Fields: fields}))
			mustHold(t, def, x, pairs(w.key, 7)...)
		}
	}
	deepest := "d"
	for range api.MaxDepth - 1 {
		deepest += ".a"
	}
	x := fresh(t, api.IndexOf{Way: deepest})
	mustPut(t, x, sample.Able(api.IsLazy, &sample.Script{ID: 7, Fields: api.Dict{sample.Field("d", deep)}}))
	mustHold(t, "as deep as can be", x, pairs("deepest", 7)...)
}

// P16.2: where nothing lies, the key is nil; with Some it has none, and what was kept of its identity is kept no more.
func TestPutNothingThere(t *testing.T) {
	for _, w := range []struct {
		way    string
		fields api.Dict
	}{
		{"a", nil}, {"a", api.Dict{sample.Field("b", "x")}}, {"a.b", nil}, {"a[0]", nil},
		{"a.b", api.Dict{sample.Field("a", nil)}}, {"a.b", api.Dict{sample.Field("a", "text")}}, {"a.b", api.Dict{sample.Field("a", api.List{"b"})}}, {"a.b", api.Dict{sample.Field("a", api.Dict{sample.Field("c", "x")})}},
		{"a[0]", api.Dict{sample.Field("a", api.List{})}}, {"a[2]", api.Dict{sample.Field("a", api.List{"x", "y"})}}, {"a[0]", api.Dict{sample.Field("a", api.Dict{sample.Field("a", "x")})}}, {"a[0]", api.Dict{sample.Field("a", []byte("xy"))}}, {"a[4095]", api.Dict{sample.Field("a", sample.Items(api.MaxItems-1))}},
		{"a[0].b", api.Dict{sample.Field("a", api.List{"x", api.Dict{sample.Field("b", "x")}})}}, {"a[0][0]", api.Dict{sample.Field("a", api.List{api.Ref(8), "x"})}},
	} {
		for _, unique := range []bool{false, true} {
			def := api.IndexOf{Way: w.way, Unique: unique}
			x := fresh(t, def)
			mustPut(t, x, teller(7, "x", "y"))
			mustPut(t, x, thing(t, 7, w.fields...))
			mustHold(t, w.way, x, pairs(nil, 7)...)
			def.Some = true
			x = of7(t, def)
			mustPut(t, x, thing(t, 7, w.fields...))
			mustPut(t, x, thing(t, 9, w.fields...))
			mustHold(t, w.way, x, pairs(nil, 8)...)
			mustNotKeep(t, x, 7, 9)
		}
	}
	x := of7(t, some())
	mustPut(t, x, aged(9, nil))
	mustNotKeep(t, x, 9)
	x = of7(t, api.IndexOf{Way: "age", Some: true})
	mustPut(t, x, aged(9, nil)) // nil lies there
	mustHold(t, "nil", x, pairs(nil, 8, nil, 9, "x", 7, "y", 7)...)
}

// P16.2: Ask's error: of what can't be loaded, panics, or answers what can't be, anywhere in what is asked for.
func TestPutAskWrong(t *testing.T) {
	for _, def := range append(defs("", "age"), defs("", "age.a")...) {
		x := of7(t, def)
		for _, w := range sample.Wrongs() {
			mustNotPut(t, w.Name, x, aged(7, w.V), w.Why)
		}
		mustNotPut(t, "beside the way", x, aged(7, api.Dict{sample.Field("a", "k"), sample.Field("b", 7)}), api.ErrKind)
		s := &sample.Script{ID: 7, Fields: api.Dict{sample.Field("age", "k"), sample.Field("other", 7)}}
		for _, e := range []api.Errno{api.ErrFull, api.ErrIdentity, 12345, -1} {
			s.Fails = e
			mustNotPut(t, "not loaded", x, sample.Able(api.IsLazy, s), e)
		}
		s.Fails = api.OK
		for _, method := range []string{"Loaded", "Load", "Get"} {
			for _, thrown := range sample.Thrown() {
				s.Loaded, s.Meanwhile = false, panicsIn(method, thrown)
				mustNotPut(t, method, x, sample.Able(api.IsLazy, s), api.ErrPanic)
			}
		}
	}
}

// P16.2, P10.14: which methods are called, once each, by Put and by Test.
func TestPutCalls(t *testing.T) {
	for _, def := range []api.IndexOf{{Way: "age.years"}, {Class: "person", Way: "age.years"}, {Class: "other", Way: "age.years"}} {
		for set := range 16 {
			for _, loaded := range []bool{false, true} {
				x := fresh(t, def)
				for _, call := range []func(api.Object) api.Errno{x.Put, x.Test} {
					s := &sample.Script{ID: 7, Class: "person", Version: 3, Loaded: loaded}
					must(t, set, call(sample.Able(set, s)), api.OK)
					if want := callsOf(def, set, loaded); !slices.Equal(s.Log, want) {
						t.Errorf("%+v, set %d: %q, want %q", def, set, s.Log, want)
					}
				}
			}
		}
	}
}

// callsOf is the methods that are called of an object of class person with those abilities.
func callsOf(def api.IndexOf, set int, loaded bool) []string {
	l := []string{"ID"}
	if def.Class != "" {
		if set&api.IsVersioned == 0 {
			return l
		}
		if l = append(l, "Class", "Version"); def.Class != "person" {
			return l
		}
	}
	if set&api.IsIndexed != 0 {
		return append(l, "Keys")
	}
	if set&api.IsLazy != 0 {
		l = append(l, "Loaded")
	}
	if set&api.IsLazy != 0 && !loaded {
		l = append(l, "Load")
	}
	return append(l, "Get age")
}

// P16.3: what was kept, and what was not; twice.
func TestDrop(t *testing.T) {
	x := filled(t, 5)
	mustPut(t, x, teller(9, "a", "b", int64(20)))
	for _, id := range refs(0, 6, 10, 1<<63) {
		mustDrop(t, x, id, false)
	}
	mustHold(t, "all", x, pairs(int64(10), 1, int64(20), 2, int64(20), 9, int64(30), 3, int64(40), 4, int64(50), 5, "a", 9, "b", 9)...)
	mustDrop(t, x, 2, true)
	mustDrop(t, x, 2, false)
	mustHold(t, "without 2", x, pairs(int64(10), 1, int64(20), 9, int64(30), 3, int64(40), 4, int64(50), 5, "a", 9, "b", 9)...)
	mustDrop(t, x, 9, true)
	mustDrop(t, x, 9, false)
	mustHold(t, "without 9", x, pairs(int64(10), 1, int64(30), 3, int64(40), 4, int64(50), 5)...)
	mustFind(t, x, int64(20))
	for _, id := range refs(5, 1, 3, 4) {
		mustDrop(t, x, id, true)
	}
	mustHold(t, "none", x)
	mustPut(t, x, teller(2, int64(20)))
	mustHold(t, "2 again", x, pairs(int64(20), 2)...)
}
