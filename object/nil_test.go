package object_test

import (
	"fmt"
	"testing"

	"tenon/api"
	"tenon/object"
	"tenon/sample"
)

// P10.13, example 2: nothing, a nil Thing, a Thing and a foreign nil pointer are told apart, but that the last one is something.
func TestHolds(t *testing.T) {
	var hollow *object.Thing
	var ref *api.Object
	for i, x := range []struct {
		o    api.Object
		want int
	}{
		{nil, api.Nothing}, {hollow, api.Hollow}, {thing(t, 1), api.Something}, {new(object.Thing), api.Something}, {(*sharp)(nil), api.Something}, {(*blunt)(nil), api.Something}, {&blunt{}, api.Something},
		{listed(nil), api.Something}, {mapped(nil), api.Something}, {asked(nil), api.Something}, {struct{ api.Object }{}, api.Something}, {struct{ *object.Thing }{}, api.Something}, {&struct{ *object.Thing }{}, api.Something}, {loosely{}, api.Something}, {loosely{ref}, api.Something},
	} {
		if n := object.Holds(x.o); n != x.want {
			t.Errorf("%d: %d, want %d", i, n, x.want)
		}
	}
}

// P10.13: what is not something is ErrNil to every call that answers an error, whatever else is handed in.
func TestNothingIsAsked(t *testing.T) {
	var hollow *object.Thing
	for _, o := range []api.Object{nil, hollow} {
		mustVersion(t, o, "", 0, false, api.ErrNil)
		mustKeys(t, o, nil, false, api.ErrNil)
		mustOwner(t, o, "", false, api.ErrNil)
		mustLoad(t, o, api.ErrNil)
		for _, name := range []string{"a", "", "A"} {
			mustGive(t, o, name, api.ErrNil)
			mustAsk(t, o, name, nil, false, api.ErrNil)
			mustNoRecord(t, o, []string{name, name}, api.ErrNil)
		}
		mustNoRecord(t, o, nil, api.ErrNil)
	}
}

// P10.13: a foreign nil pointer is asked as any other: it may answer, or panic.
func TestForeignNil(t *testing.T) {
	var s *sharp
	mustVersion(t, s, "", 0, true, api.ErrPanic)
	mustKeys(t, s, nil, true, api.ErrPanic)
	mustOwner(t, s, "", true, api.ErrPanic)
	mustGive(t, s, "ann", api.ErrPanic)
	mustLoad(t, s, api.ErrPanic)
	mustAsk(t, s, "a", nil, false, api.ErrPanic)
	mustNoRecord(t, s, nil, api.ErrPanic)
	mustAsk(t, (*near)(nil), "a", nil, false, api.ErrPanic)

	var b *blunt
	mustVersion(t, b, "blunt", 2, true, api.OK)
	mustKeys(t, b, nil, true, api.OK)
	mustOwner(t, b, "nobody", true, api.OK)
	mustGive(t, b, "ann", api.ErrFull)
	mustLoad(t, b, api.OK)
	mustAsk(t, b, "a", "a", true, api.OK)
	mustRecord(t, b, []string{"b", "a"}, `blunt/2{a: "a", b: "b"}`)

	var around struct{ *object.Thing }
	mustAsk(t, around, "a", nil, false, api.OK)
	mustAsk(t, struct{ api.Object }{}, "a", nil, false, api.ErrPanic)
	mustLoad(t, struct{ api.Lazy }{}, api.ErrPanic)
}

// throwing panics with something in one method.
func throwing(method string, thrown any) func(string) {
	return func(m string) {
		if m == method {
			panic(thrown)
		}
	}
}

// P10.13, P10.6 to P10.11: a panic of a method is told by ErrPanic, whatever it panics with, beside what the ability tells; the methods behind it are not called.
func TestMethodsPanic(t *testing.T) {
	for _, thrown := range sample.Thrown() {
		for set := range 16 {
			s := ordinary()
			o := sample.Able(set, s)
			has := func(ability int) bool { return set&ability != 0 }
			throws := func(method string) { s.Meanwhile, s.Loaded, s.Owner = throwing(method, thrown), false, "ann" }
			if throws("Class"); has(api.IsVersioned) {
				mustVersion(t, o, "", 0, true, api.ErrPanic)
				mustNoRecord(t, o, []string{"a"}, api.ErrPanic)
				mustLog(t, s, "Class", "Class")
			}
			if throws("Version"); has(api.IsVersioned) {
				mustVersion(t, o, "", 0, true, api.ErrPanic)
				s.Class = "No name"
				mustVersion(t, o, "", 0, true, api.ErrPanic)
				mustNoRecord(t, o, nil, api.ErrPanic)
				mustLog(t, s, "Class", "Version", "Class", "Version", "Class", "Version")
				s.Class = "p"
			}
			if throws("Keys"); has(api.IsIndexed) {
				mustKeys(t, o, nil, true, api.ErrPanic)
				mustLog(t, s, "Keys")
			}
			if throws("Owner"); has(api.IsOwned) {
				mustOwner(t, o, "", true, api.ErrPanic)
				mustLog(t, s, "Owner")
			}
			if throws("Give"); has(api.IsOwned) {
				mustGive(t, o, "bob", api.ErrPanic)
				mustLog(t, s, "Give bob")
				mustOwner(t, o, "ann", true, api.OK)
				s.Log = nil
			}
			if throws("Loaded"); has(api.IsLazy) {
				mustLoad(t, o, api.ErrPanic)
				mustAsk(t, o, "a", nil, false, api.ErrPanic)
				mustLog(t, s, "Loaded", "Loaded")
			}
			if throws("Load"); has(api.IsLazy) {
				mustLoad(t, o, api.ErrPanic)
				mustAsk(t, o, "a", nil, false, api.ErrPanic)
				mustLog(t, s, "Loaded", "Load", "Loaded", "Load")
				s.Loaded = true
				mustLoad(t, o, api.OK)
				mustAsk(t, o, "a", int64(1), true, api.OK)
				s.Log = nil
			}
			throws("Get")
			s.Loaded = true
			mustAsk(t, o, "a", nil, false, api.ErrPanic)
			mustAsk(t, o, "c", nil, false, api.ErrPanic)
			if has(api.IsVersioned) {
				mustNoRecord(t, o, []string{"b", "a"}, api.ErrPanic)
			}
			throws("ID")
			mustAsk(t, o, "a", int64(1), true, api.OK)
		}
	}
}

// half does something, and panics behind it.
type half struct {
	blunt
	did []string
}

func (h *half) Give(to string) api.Errno {
	h.did = append(h.did, "given to "+to)
	panic(api.OK)
}

func (h *half) Load() (e api.Errno) {
	h.did = append(h.did, "loaded")
	defer panic("behind its answer")
	return api.OK
}

// What a method had done by the time that it panicked stays; a panic behind an answer is one, too.
func TestDoneStays(t *testing.T) {
	h := &half{}
	mustGive(t, h, "ann", api.ErrPanic)
	mustLoad(t, h, api.ErrPanic)
	mustAsk(t, h, "a", nil, false, api.ErrPanic)
	if s := fmt.Sprint(h.did); s != "[given to ann loaded loaded]" {
		t.Error(s)
	}
}

// A method may make the calls of its own object: each is answered by itself.
func TestCallsWithin(t *testing.T) {
	s := ordinary()
	o := sample.Able(all, s)
	depth := 0
	s.Meanwhile = func(method string) {
		if depth++; method == "Get" && depth < 30 {
			mustRecord(t, o, nil, "p/3{}")
			mustLoad(t, o, api.OK)
			if _, _, e := object.Ask(o, "a"); e != api.ErrPanic && e != api.OK {
				t.Error(e)
			}
			panic("enough")
		}
	}
	mustAsk(t, o, "a", nil, false, api.ErrPanic)
	s.Meanwhile = nil
	mustAsk(t, o, "a", int64(1), true, api.OK)
}
