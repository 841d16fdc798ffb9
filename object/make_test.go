package object_test

import (
	"slices"
	"strings"
	"testing"

	"tenon/api"
	"tenon/object"
	"tenon/sample"
	"tenon/value"
)

// all is all four abilities.
const all = api.IsVersioned + api.IsIndexed + api.IsOwned + api.IsLazy

// ordinary is a script whose answers can all be.
func ordinary() *sample.Script {
	return &sample.Script{ID: 5, Class: "p", Version: 3, Owner: "ann", Keys: []any{int64(1), "b"}, Fields: api.Dict{sample.Field("a", int64(1)), sample.Field("b", api.List{nil}), sample.Field("d", nil)}}
}

// thing is a Thing, which must be made.
func thing(t *testing.T, id api.Ref, fields ...api.Field) *object.Thing {
	t.Helper()
	x, e := object.New(id, fields)
	if x == nil || e != api.OK {
		t.Fatal(id, sample.Told(api.Dict(fields)), e)
	}
	return x
}

// sharp's methods use it, so that they panic if it is nil; blunt's do not.
type (
	sharp = sample.Sharp
	blunt = sample.Blunt
)

func mustVersion(t *testing.T, o api.Object, class string, version int, is bool, want api.Errno) {
	t.Helper()
	if c, v, ok, e := object.VersionOf(o); c != class || v != version || ok != is || e != want {
		t.Errorf("VersionOf(%T): %q, %d, %v, %d; want %q, %d, %v, %d", o, c, v, ok, e, class, version, is, want)
	}
}

func mustKeys(t *testing.T, o api.Object, keys []any, is bool, want api.Errno) {
	t.Helper()
	l, ok, e := object.KeysOf(o)
	if !slices.EqualFunc(l, keys, value.Same) || ok != is || e != want {
		t.Errorf("KeysOf(%T): %s, %v, %d; want %s, %v, %d", o, sample.Told(api.List(l)), ok, e, sample.Told(api.List(keys)), is, want)
	}
	if want != api.OK && l != nil {
		t.Errorf("KeysOf(%T): keys beside an error", o)
	}
}

func mustOwner(t *testing.T, o api.Object, owner string, is bool, want api.Errno) {
	t.Helper()
	if s, ok, e := object.OwnerOf(o); s != owner || ok != is || e != want {
		t.Errorf("OwnerOf(%T): %q, %v, %d; want %q, %v, %d", o, s, ok, e, owner, is, want)
	}
}

func mustGive(t *testing.T, o api.Object, to string, want api.Errno) {
	t.Helper()
	if e := object.Give(o, to); e != want {
		t.Errorf("Give(%T, %q): %d, want %d", o, to, e, want)
	}
}

func mustLoad(t *testing.T, o api.Object, want api.Errno) {
	t.Helper()
	if e := object.Load(o); e != want {
		t.Errorf("Load(%T): %d, want %d", o, e, want)
	}
}

func mustAsk(t *testing.T, o api.Object, name string, v any, has bool, want api.Errno) {
	t.Helper()
	if w, ok, e := object.Ask(o, name); !value.Same(w, v) || ok != has || e != want {
		t.Errorf("Ask(%T, %q): %s, %v, %d; want %s, %v, %d", o, name, sample.Told(w), ok, e, sample.Told(v), has, want)
	}
}

// mustRecord holds what an object has under names against the text of what is wanted.
func mustRecord(t *testing.T, o api.Object, names []string, want string) {
	t.Helper()
	if r, e := object.Record(o, names); sample.Told(r) != want || e != api.OK {
		t.Errorf("Record(%T, %q): %s, %d; want %s", o, names, sample.Told(r), e, want)
	}
}

func mustNoRecord(t *testing.T, o api.Object, names []string, want api.Errno) {
	t.Helper()
	if r, e := object.Record(o, names); r != nil || e != want {
		t.Errorf("Record(%T, %.100q): %s, %d; want %d", o, names, sample.Told(r), e, want)
	}
}

// mustLog holds the methods that were called against what is wanted, and begins anew.
func mustLog(t *testing.T, s *sample.Script, want ...string) {
	t.Helper()
	if !slices.Equal(s.Log, want) {
		t.Errorf("called: %s\nwant: %s", strings.Join(s.Log, ", "), strings.Join(want, ", "))
	}
	s.Log = nil
}
