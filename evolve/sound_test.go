package evolve_test

import (
	"slices"
	"testing"

	"tenon/api"
	"tenon/check"
	"tenon/evolve"
	"tenon/sample"
	"tenon/schema"
	"tenon/value"
)

func mustSound(t *testing.T, c api.Class, name string, why api.Errno) {
	t.Helper()
	if got, e := evolve.Sound(c); got != name || e != why {
		t.Errorf("Sound(%s %d): %q, %d, want %q, %d", c.Name, c.Version, got, e, name, why)
	}
}

// P8.1: a class that can't be: its error, and no name, also where a default is not of its type.
func TestSoundWrongClasses(t *testing.T) {
	misfit := sample.With(sample.FieldOf("a", sample.NoValue()), nil)
	for _, x := range sample.WrongClasses() {
		mustSound(t, x.C, "", x.Why)
		if len(x.C.Fields) == 3 && x.C.Fields[0].Name == "a" {
			c := x.C
			c.Fields = append([]api.FieldOf{misfit}, c.Fields[1:]...)
			mustSound(t, c, "", x.Why)
		}
	}
}

// P8.1: the first field whose default is not of its type.
func TestSound(t *testing.T) {
	for _, x := range []struct{ fields, name string }{
		{"", ""}, {"a: int", ""}, {"a: none", ""}, {"a: int = 0", ""}, {"a: text | nil = nil", ""}, {`a: [int] = [] b: {c: int, ...} = {c: 1, d: "x"} c: any = p/1{}`, ""}, {"a: is 0x0p+00 = 0x0p+00", ""},
		{"a: int = nil", "a"}, {"a: int = 0x0p+00", "a"}, {"a: none = nil", "a"}, {"a: is 0x0p+00 = -0x0p+00", "a"}, {"a: int = 1 b: text = 3", "b"}, {`a: [int] = [1, "a"]`, "a"}, {"a: of q = p/1{}", "a"}, {"a: {b: int} = {}", "a"},
		{"a: int b: text = 1 c: text = 1", "b"}, {`a: int = "x" b: int = "x"`, "a"}, {`a: int = 1 b: int c: int = "x" d: int = 1 e: int = "x"`, "c"}, {`a: any = 1 z: int = ""`, "z"},
	} {
		why := api.OK
		if x.name != "" {
			why = api.ErrMisfit
		}
		for _, head := range []string{"class p 1 {", "class p 7 : q 3 {", "class p 1 abstract {"} {
			l, at, e := schema.Parse(head + x.fields + "}")
			if e != api.OK {
				t.Fatal(x.fields, at, e)
			}
			mustSound(t, l[0], x.name, why)
		}
	}
}

// P8.1: without Has the default plays no part, whatever it is; nor does what a type's kind does not use.
func TestSoundClutter(t *testing.T) {
	clutter := api.FieldOf{Name: "a", Type: sample.Cluttered(typ("[int]")), Default: sample.Term("x")}
	worse := api.FieldOf{Name: "b", Type: sample.Cluttered(typ("none")), Default: api.Term{Kind: api.KNothing}}
	held := sample.With(api.FieldOf{Name: "c", Type: sample.Cluttered(typ("[int]"))}, api.List{int64(1)})
	held.Default = sample.ClutteredTerm(held.Default)
	mustSound(t, sample.Class("p", 1, clutter, worse, held), "", api.OK)
	clutter.Has = true
	mustSound(t, sample.Class("p", 1, clutter, worse, held), "a", api.ErrMisfit)
}

// P8.1: the parent plays no part: not its defaults, and not whether it is there.
func TestSoundParent(t *testing.T) {
	s := made(t, `class q 1 { a: int = "x" } class p 1 : q 1 { b: int = 1 }`)
	for version, name := range map[string]string{"q": "a", "p": ""} {
		c, _ := s.Class(version, 1)
		why := api.OK
		if name != "" {
			why = api.ErrMisfit
		}
		mustSound(t, c, name, why)
	}
	mustSound(t, sample.Child("p", 1, "nobody", 9, sample.With(sample.FieldOf("b", typ("int")), "x")), "b", api.ErrMisfit)
}

// P8.1: whatever types and values come.
func TestSoundAnyhow(t *testing.T) {
	for _, x := range sample.Types() {
		for _, v := range sample.Rising() {
			name, why := "b", api.ErrMisfit
			if ok, _, _ := check.Is(v, x); ok {
				name, why = "", api.OK
			}
			mustSound(t, sample.Class("p", 1, sample.Some("a"), sample.With(sample.FieldOf("b", x), v)), name, why)
		}
	}
}

func mustConform(t *testing.T, s *schema.Schema, r *api.Record, name string, why api.Errno) {
	t.Helper()
	if got, e := evolve.Conforms(s, r); got != name || e != why {
		t.Errorf("Conforms(%s): %q, %d, want %q, %d", told(r), got, e, name, why)
	}
}

// P8.2: the fields and the class's, name by name, as they rise.
func TestConforms(t *testing.T) {
	s := made(t, "class p 1 { b: int d: text | nil f: [int] = [] } class p 2 { } class q 1 { b: any f: any } class p 3 : q 1 { a: int z: int = 3 }")
	for _, x := range []struct {
		record, name string
		why          api.Errno
	}{
		{"p/1{b: 1, d: nil, f: []}", "", api.OK}, {`p/1{b: -1, d: "", f: [1, 2]}`, "", api.OK},
		{"p/1{}", "b", api.ErrFields}, {"p/1{b: 1, d: nil}", "f", api.ErrFields}, {"p/1{b: 1, f: []}", "d", api.ErrFields}, {"p/1{d: nil, f: []}", "b", api.ErrFields},
		{"p/1{a: 1, b: 1, d: nil, f: []}", "a", api.ErrFields}, {"p/1{b: 1, c: 1, d: nil, f: []}", "c", api.ErrFields}, {"p/1{b: 1, d: nil, e: 1, f: []}", "e", api.ErrFields}, {"p/1{b: 1, d: nil, f: [], g: 1}", "g", api.ErrFields}, {"p/1{b: 1, d: nil, f: [], g: 1, h: 1}", "g", api.ErrFields}, {"p/1{b: 1, d: nil, f: [], f0: 1}", "f0", api.ErrFields},
		{"p/1{b: nil, d: nil, f: []}", "b", api.ErrMisfit}, {"p/1{b: 1, d: 1, f: []}", "d", api.ErrMisfit}, {"p/1{b: 1, d: nil, f: [nil]}", "f", api.ErrMisfit}, {"p/1{b: 0x0p+00, d: nil, f: []}", "b", api.ErrMisfit},
		{"p/1{b: nil, d: 1, f: nil}", "b", api.ErrMisfit}, {"p/1{b: 1, d: 1, f: nil}", "d", api.ErrMisfit}, // the first of several
		{"p/1{a: 1, d: 1}", "a", api.ErrFields}, {"p/1{c: 1, d: nil, f: []}", "b", api.ErrFields}, {"p/1{b: 1, c: 1, f: []}", "c", api.ErrFields}, {"p/1{b: 1, e: 1, f: []}", "d", api.ErrFields}, {"p/1{b: 1, d: nil, g: 1}", "f", api.ErrFields}, {"p/1{b: 1, d: nil, e: 1}", "e", api.ErrFields}, // one too many and one too few
		{"p/1{b: nil, c: 1, d: nil, f: []}", "b", api.ErrMisfit}, {"p/1{a: 1, b: nil, d: nil, f: []}", "a", api.ErrFields}, {"p/1{b: nil}", "b", api.ErrMisfit}, {"p/1{d: 1, f: []}", "b", api.ErrFields}, {"p/1{b: 1, f: nil}", "d", api.ErrFields},
		{"p/2{}", "", api.OK}, {"p/2{b: 1}", "b", api.ErrFields},
		{"p/3{a: 1, b: 1, f: 1, z: 1}", "", api.OK}, {"p/3{a: 1, z: 1}", "b", api.ErrFields}, {"p/3{b: 1, f: 1}", "a", api.ErrFields}, {"p/3{a: 1, b: 1, f: 1}", "z", api.ErrFields}, {`p/3{a: 1, b: 1, f: 1, z: ""}`, "z", api.ErrMisfit}, {"p/3{a: 1, b: 1, d: 1, f: 1, z: 1}", "d", api.ErrFields},
		{"p/4{}", "", api.ErrClass}, {"r/1{}", "", api.ErrClass}, {"q/2{b: 1, f: 1}", "", api.ErrClass}, {"q/1{b: 1, f: p/9{}}", "", api.OK},
	} {
		mustConform(t, s, val(x.record).(*api.Record), x.name, x.why)
	}
}

// P8.2: ErrNil, value.Check's error, ErrClass, ErrAbstract, in this order, with no name.
func TestConformsFirstError(t *testing.T) {
	s := made(t, "class p 1 { a: any } class p 2 abstract { a: any } class p 3 : p 2 { b: int = 1 }")
	good := sample.Record("p", 1, sample.Field("a", nil))
	mustConform(t, s, good, "", api.OK)
	mustConform(t, nil, good, "", api.ErrNil)
	mustConform(t, s, nil, "", api.ErrNil)
	mustConform(t, nil, nil, "", api.ErrNil)
	mustConform(t, nil, sample.Record("A", 0), "", api.ErrNil)
	mustConform(t, new(schema.Schema), good, "", api.ErrClass)
	for _, x := range sample.Wrongs() {
		if r, ok := x.V.(*api.Record); ok {
			mustConform(t, s, r, "", x.Why)
		}
		for version := 1; version <= 9; version++ { // one that is there, Abstract, or not there
			r := sample.Record("p", version, sample.Field("a", x.V), sample.Field("x", nil))
			_, want := value.Check(r)
			mustConform(t, s, r, "", want)
		}
	}
	mustConform(t, s, sample.Record("p", 1, sample.Field("b", nil), sample.Field("a", nil)), "", api.ErrName)
	mustConform(t, s, sample.Record("p", 4), "", api.ErrClass)
	mustConform(t, s, sample.Record("p", 1000), "", api.ErrClass)
	mustConform(t, s, sample.Record("p", 2), "", api.ErrAbstract)
	mustConform(t, s, sample.Record("p", 2, sample.Field("a", nil)), "", api.ErrAbstract)
	mustConform(t, s, sample.Record("p", 3, sample.Field("a", nil), sample.Field("b", int64(2))), "", api.OK) // of a parent that is Abstract
}

// P8.2: as many fields as can be.
func TestConformsMany(t *testing.T) {
	s := defined(t, sample.Class("p", 1, sample.SomeFields(0, api.MaxItems)...))
	r, e := s.New("p", 1)
	if e != api.OK {
		t.Fatal(e)
	}
	mustConform(t, s, r, "", api.OK)
	r.Fields[4095].Name = "g"
	mustConform(t, s, r, "f004095", api.ErrFields)
	r.Fields = slices.Delete(r.Fields, 2000, 2001)
	mustConform(t, s, r, "f002000", api.ErrFields)
}

// P8.2: what New makes conforms just if the defaults are of their types.
func TestConformsNew(t *testing.T) {
	s := made(t, `class q 1 { a: int = "x" } class p 1 { b: int = 1 } class p 2 : q 1 { b: int = 1 } class p 3 { b: int = nil c: int = nil }`)
	for version, name := range []string{"", "a", "b"} {
		r, e := s.New("p", version+1)
		why := api.OK
		if name != "" {
			why = api.ErrMisfit
		}
		if e != api.OK {
			t.Fatal(e)
		}
		mustConform(t, s, r, name, why)
	}
}
