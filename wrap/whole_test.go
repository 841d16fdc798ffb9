package wrap_test

import (
	"testing"

	"tenon/api"
	"tenon/convert"
	"tenon/object"
	"tenon/sample"
	"tenon/value"
)

// Example 3 of the whole, P3: of what has Versioned and Lazy only Lazy is shown, if that is meant.
func TestLazyAlone(t *testing.T) {
	s := numbered(2)
	s.Loaded, s.Fails = false, api.OK
	x := mustShow(t, sample.Able(api.IsVersioned+api.IsLazy, s), api.IsLazy)
	if _, ok := x.(api.Versioned); ok {
		t.Error("Versioned is shown")
	}
	if _, ok := x.(api.Lazy); !ok {
		t.Error("Lazy is not shown")
	}
	if _, _, is, e := object.VersionOf(x); is || e != api.OK {
		t.Error(is, e)
	}
	if r, e := object.Record(x, []string{"a"}); r != nil || e != api.ErrLack {
		t.Error(r, e)
	}
	mustLog(t, s)
	if v, has, e := object.Ask(x, "a"); v != "xxx" || !has || e != api.OK {
		t.Error(v, has, e)
	}
	mustLog(t, s, "Loaded", "Load", "Get a")
}

// P3: the calls of layer 10 find in each wrapper what it shows, and answer as of the object itself.
func TestAskedThroughWrappers(t *testing.T) {
	for had := range 16 {
		for meant := range 16 {
			s := numbered(3)
			s.Fails = api.OK
			o := sample.Able(had, s)
			x := mustGuard(t, mustShow(t, mustCount(t, o, silent), meant))
			shows := func(ability int) bool { return had&meant&ability != 0 }
			if c, v, is, e := object.VersionOf(x); is != shows(api.IsVersioned) || is && (c != s.Class || v != 3) || e != api.OK {
				t.Error(had, meant, c, v, is, e)
			}
			if keys, is, e := object.KeysOf(x); is != shows(api.IsIndexed) || is && len(keys) != 2 || e != api.OK {
				t.Error(had, meant, keys, is, e)
			}
			if who, is, e := object.OwnerOf(x); is != shows(api.IsOwned) || is && who != s.Owner || e != api.OK {
				t.Error(had, meant, who, is, e)
			}
			if e := object.Give(x, "eve"); (e == api.OK) != shows(api.IsOwned) || e != api.OK && e != api.ErrLack {
				t.Error(had, meant, e)
			}
			s.Loaded = false
			if e := object.Load(x); e != api.OK || s.Loaded != shows(api.IsLazy) {
				t.Error(had, meant, e, s.Loaded)
			}
			if v, has, e := object.Ask(x, "b"); !value.Same(v, api.List{int64(3)}) || !has || e != api.OK {
				t.Error(had, meant, v, has, e)
			}
		}
	}
}

// P3: behind a Guard layer 10 hears no panic: where Give and Load tell of one, the others are as if there was nothing, and a class or owner that is none is no name.
func TestGuardedAsked(t *testing.T) {
	s := numbered(3)
	s.Meanwhile = func(method string) { panic(method) }
	x := mustGuard(t, sample.Able(all, s))
	if c, v, is, e := object.VersionOf(x); c != "" || v != 0 || !is || e != api.ErrName {
		t.Error(c, v, is, e)
	}
	if keys, is, e := object.KeysOf(x); len(keys) != 0 || !is || e != api.OK {
		t.Error(keys, is, e)
	}
	if who, is, e := object.OwnerOf(x); who != "" || !is || e != api.ErrName {
		t.Error(who, is, e)
	}
	if e := object.Give(x, "eve"); e != api.ErrPanic {
		t.Error(e)
	}
	if e := object.Load(x); e != api.ErrPanic {
		t.Error(e)
	}
	mustLog(t, s, "Class", "Version", "Keys", "Owner", "Give eve", "Loaded", "Load")
}

// renames is a converter from version 3 to 4.
type renames struct{}

func (renames) From() (string, int) { return "person", 3 }
func (renames) To() int             { return 4 }
func (renames) Convert(fields api.Dict) (api.Dict, api.Errno) {
	return api.Dict{sample.Field("called", fields[0].Value)}, api.OK
}

// P4: what is read through wrappers is converted as any other record.
func TestConvertedThroughWrappers(t *testing.T) {
	s := numbered(3)
	s.Class, s.Fails = "person", api.OK
	var r convert.Registry
	if _, e := r.Add(renames{}); e != api.OK {
		t.Fatal(e)
	}
	for i, x := range ofEachKind(t, sample.Able(all, s)) {
		old, e := object.Record(x, []string{"a"})
		if e != api.OK {
			t.Fatal(i, e)
		}
		now, e := r.Convert(old, 4)
		if e != api.OK || !value.Same(now, sample.Record("person", 4, sample.Field("called", "xxxx"))) {
			t.Error(i, now, e)
		}
	}
}
