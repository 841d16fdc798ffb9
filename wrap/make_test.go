package wrap_test

import (
	"fmt"
	"reflect"
	"runtime"
	"slices"
	"strings"
	"testing"

	"tenon/api"
	"tenon/object"
	"tenon/sample"
	"tenon/wrap"
)

// all is all four abilities.
const all = api.IsVersioned + api.IsIndexed + api.IsOwned + api.IsLazy

// hollow is a Thing that is nil.
var hollow *object.Thing

// numbered is a script all of whose answers tell a number from 1 on.
func numbered(n int) *sample.Script {
	name := "x" + strings.Repeat("x", n)
	return &sample.Script{ID: api.Ref(n), Class: "c" + name, Version: n, Keys: []any{int64(n), name}, Owner: "o" + name, Loaded: n%2 == 1, Fails: api.Errno(1000 + n), Fields: api.Dict{sample.Field("a", name), sample.Field("b", api.List{int64(n)})}}
}

// method is one that an object may have: the number of its ability (0: all objects have it), how a Script writes down that it was called, and what a Guard answers where it panics. What it answers is told as a text.
type method struct {
	name    string
	of      int
	logged  string
	call    func(o api.Object) string
	guarded string
}

func methods() []method {
	return []method{
		{"ID", 0, "ID", func(o api.Object) string { return fmt.Sprint(o.ID()) }, "0"},
		{"Get", 0, "Get a", func(o api.Object) string { v, has := o.Get("a"); return fmt.Sprint(v, has) }, "<nil> false"},
		{"Get", 0, "Get Nobody's", func(o api.Object) string { v, has := o.Get("Nobody's"); return fmt.Sprint(v, has) }, "<nil> false"},
		{"Class", api.IsVersioned, "Class", func(o api.Object) string { return o.(api.Versioned).Class() }, ""},
		{"Version", api.IsVersioned, "Version", func(o api.Object) string { return fmt.Sprint(o.(api.Versioned).Version()) }, "0"},
		{"Keys", api.IsIndexed, "Keys", func(o api.Object) string { return fmt.Sprint(o.(api.Indexed).Keys()) }, "[]"},
		{"Owner", api.IsOwned, "Owner", func(o api.Object) string { return o.(api.Owned).Owner() }, ""},
		{"Give", api.IsOwned, "Give Eve", func(o api.Object) string { return fmt.Sprint(int(o.(api.Owned).Give("Eve"))) }, "9"},
		{"Loaded", api.IsLazy, "Loaded", func(o api.Object) string { return fmt.Sprint(o.(api.Lazy).Loaded()) }, "false"},
		{"Load", api.IsLazy, "Load", func(o api.Object) string { return fmt.Sprint(int(o.(api.Lazy).Load())) }, "9"},
	}
}

// methodsOf is those that an object with a set of abilities has.
func methodsOf(set int) []method {
	return slices.DeleteFunc(methods(), func(m method) bool { return m.of&set != m.of })
}

// wanted is what the methods of an object answer that a number's script speaks for.
func wanted(m method, n int) string { return m.call(sample.Able(all, numbered(n))) }

// mustShow, mustAdd, mustGuard and mustCount are wrappers, which must be made.
func mustShow(t *testing.T, o api.Object, has int) api.Object {
	t.Helper()
	x, e := wrap.Show(o, has)
	return made(t, x, e)
}

func mustAdd(t *testing.T, o, by api.Object) api.Object {
	t.Helper()
	x, e := wrap.Add(o, by)
	return made(t, x, e)
}

func mustGuard(t *testing.T, o api.Object) api.Object {
	t.Helper()
	x, e := wrap.Guard(o)
	return made(t, x, e)
}

func mustCount(t *testing.T, o api.Object, tells func(method string)) api.Object {
	t.Helper()
	x, e := wrap.Count(o, tells)
	return made(t, x, e)
}

func made(t *testing.T, x api.Object, e api.Errno) api.Object {
	t.Helper()
	if x == nil || e != api.OK {
		t.Fatal(x, e)
	}
	return x
}

// mustNot is of a maker that refuses.
func mustNot(t *testing.T, name any, x api.Object, e, want api.Errno) {
	t.Helper()
	if x != nil || e != want {
		t.Errorf("%v: %T, %d, want %d", name, x, e, want)
	}
}

func silent(string) {}

// ofEachKind is a wrapper of each kind around an object that shows all that it has.
func ofEachKind(t *testing.T, o api.Object) []api.Object {
	t.Helper()
	return []api.Object{mustShow(t, o, all), mustAdd(t, o, sample.Able(0, numbered(99))), mustGuard(t, o), mustCount(t, o, silent)}
}

// mustHave holds what an object has against what is wanted: by Abilities, by assertion to each ability, and by all its exported methods.
func mustHave(t *testing.T, o api.Object, want int) {
	t.Helper()
	if n, e := object.Abilities(o); n != want || e != api.OK {
		t.Errorf("Abilities(%T): %d, %d, want %d", o, n, e, want)
	}
	_, isV := object.As[api.Versioned](o)
	_, isI := object.As[api.Indexed](o)
	_, isO := object.As[api.Owned](o)
	_, isL := object.As[api.Lazy](o)
	for i, is := range []bool{isV, isI, isO, isL} {
		if is != (want&(1<<i) != 0) {
			t.Errorf("As(%T) to %d: %v, want %d", o, 1<<i, is, want)
		}
	}
	var has, should []string
	for m := range reflect.TypeOf(o).Methods() {
		has = append(has, m.Name)
	}
	for _, m := range methodsOf(want) {
		should = append(should, m.name)
	}
	slices.Sort(has)
	slices.Sort(should)
	if should = slices.Compact(should); !slices.Equal(has, should) {
		t.Errorf("%T: %q, want %q", o, has, should)
	}
}

// mustAnswer calls a method, which must come to its end with what is wanted.
func mustAnswer(t *testing.T, o api.Object, m method, want string) {
	t.Helper()
	defer func() {
		t.Helper()
		if thrown := recover(); thrown != nil {
			t.Errorf("%s of %T: panic %v, want %q", m.logged, o, thrown, want)
		}
	}()
	if s := m.call(o); s != want {
		t.Errorf("%s of %T: %q, want %q", m.logged, o, s, want)
	}
}

// mustPanic calls a method, which must panic with just that.
func mustPanic(t *testing.T, o api.Object, m method, want any) {
	t.Helper()
	ended := false
	defer func() {
		t.Helper()
		if thrown := recover(); ended || !isThrown(thrown, want) {
			t.Errorf("%s of %T: panic %v, want %v", m.logged, o, thrown, want)
		}
	}()
	s := m.call(o)
	ended = true
	t.Errorf("%s of %T: %q, want a panic", m.logged, o, s)
}

// isThrown tells whether what was caught is what was thrown, functions and nil among that.
func isThrown(caught, thrown any) bool {
	if thrown == nil {
		_, is := caught.(*runtime.PanicNilError)
		return is
	}
	a, b := reflect.ValueOf(caught), reflect.ValueOf(thrown)
	if caught == nil || a.Type() != b.Type() {
		return false
	}
	if a.Kind() == reflect.Func {
		return a.Pointer() == b.Pointer()
	}
	return reflect.DeepEqual(caught, thrown)
}

// mustLog holds the methods that were called against what is wanted, and begins anew.
func mustLog(t *testing.T, s *sample.Script, want ...string) {
	t.Helper()
	if !slices.Equal(s.Log, want) {
		t.Errorf("called: %q\nwant: %q", s.Log, want)
	}
	s.Log = nil
}

// throwing panics with something in one method.
func throwing(method string, thrown any) func(string) {
	return func(m string) {
		if m == method {
			panic(thrown)
		}
	}
}

// loose can't be compared.
type loose struct{ n []int }

func (l loose) ID() api.Ref                 { return api.Ref(len(l.n)) }
func (l loose) Get(name string) (any, bool) { return name, true }
