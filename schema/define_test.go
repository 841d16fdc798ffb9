package schema_test

import (
	"fmt"
	"slices"
	"strings"
	"testing"

	"tenon/api"
	"tenon/sample"
	"tenon/schema"
)

// P6.3: a class that can't be is refused as it is in Print, ahead of all else.
func TestDefineWrongClasses(t *testing.T) {
	var empty schema.Schema
	s := defined(t, class("a", 1, some("x")), class("b", 1))
	before := told(s, "a", "b")
	for _, x := range sample.WrongClasses() {
		if e := s.Define(x.C); e != x.Why {
			t.Errorf("%s: %d, want %d", x.Name, e, x.Why)
		}
		if e := empty.Define(x.C); e != x.Why {
			t.Errorf("%s, the first one: %d, want %d", x.Name, e, x.Why)
		}
	}
	if told(s, "a", "b") != before || len(empty.Names()) != 0 {
		t.Error("a refused class has come in")
	}
}

// P6.3: ErrDefined, ErrGap, ErrParent, ErrField: each by itself.
func TestDefineErrors(t *testing.T) {
	s := defined(t, class("a", 1, some("x")), class("a", 2, some("y")), child("b", 1, "a", 1, some("z")), class("c", 1))
	before := told(s, "a", "b", "c", "d")
	for _, x := range []struct {
		c   api.Class
		why api.Errno
	}{
		{class("a", 1, some("x")), api.ErrDefined}, {class("a", 1), api.ErrDefined}, {class("a", 2), api.ErrDefined}, {class("b", 1), api.ErrDefined},
		{class("a", 4), api.ErrGap}, {class("a", api.MaxVersion), api.ErrGap}, {class("b", 3), api.ErrGap}, {class("d", 2), api.ErrGap},
		{child("d", 1, "a", 3), api.ErrParent}, {child("d", 1, "e", 1), api.ErrParent}, {child("d", 1, "d", 1), api.ErrParent}, {child("a", 3, "a", 3), api.ErrParent}, {child("a", 3, "a", 4), api.ErrParent}, {child("d", 1, "b", 2), api.ErrParent},
		{child("d", 1, "a", 1, some("x")), api.ErrField}, {child("d", 1, "b", 1, some("x")), api.ErrField}, {child("d", 1, "b", 1, some("z")), api.ErrField}, {child("a", 3, "a", 2, some("y")), api.ErrField}, {child("d", 1, "b", 1, some("a"), field("x", sample.NoValue()), some("zz")), api.ErrField},
	} {
		mustDefine(t, s, x.c, x.why)
	}
	if told(s, "a", "b", "c", "d") != before {
		t.Error("a refused class has come in")
	}
	for _, c := range []api.Class{class("a", 3, some("x")), child("b", 2, "a", 2, some("x"), some("z")), child("a", 4, "a", 3, some("y")), child("d", 1, "a", 4, some("z")), child("c", 2, "c", 1)} {
		mustDefine(t, s, c, api.OK)
	}
}

// P6.3: the order of the errors, where several apply.
func TestDefineFirstError(t *testing.T) {
	full := defined(t, class("p", 1, some("x")), child("c", 1, "p", 1))
	mustDefine(t, full, class("q", 1, someFields(0, api.MaxItems-1)...), api.OK)
	mustDefine(t, full, child("r", 1, "q", 1, some("x")), api.OK)
	for n := 5; n <= api.MaxItems; n++ {
		mustDefine(t, full, class(fmt.Sprintf("z%d", n), 1), api.OK)
	}
	x := some("x")
	mustDefine(t, full, child("p", 1, "no", 9, x), api.ErrDefined)     // the parent is missing, too
	mustDefine(t, full, child("c", 1, "p", 1, x), api.ErrDefined)      // its parent has the field, too
	mustDefine(t, full, child("p", 3, "no", 9, x), api.ErrGap)         // the parent is missing, too
	mustDefine(t, full, child("c", 3, "p", 1, x), api.ErrGap)          // its parent has the field, too
	mustDefine(t, full, child("c", 2, "no", 9, x), api.ErrParent)      // there is no room, either
	mustDefine(t, full, child("c", 2, "p", 1, x), api.ErrField)        // there is no room, either
	mustDefine(t, full, child("c", 2, "r", 1, x), api.ErrField)        // there would be too many fields, too
	mustDefine(t, full, child("c", 2, "r", 1, some("y")), api.ErrLong) // too many fields, and no room
	mustDefine(t, full, class("c", 2), api.ErrLong)
	mustDefine(t, full, class("new", 1), api.ErrLong)
	mustDefine(t, full, class("new", 2), api.ErrGap)
}

// P6.3: as many versions of all classes as MaxItems, of one class as MaxVersion.
func TestDefineManyVersions(t *testing.T) {
	s := new(schema.Schema)
	names := []string{"a", "b", "c", "d"}
	for _, name := range names {
		for version := 1; version <= api.MaxVersion; version++ {
			mustDefine(t, s, class(name, version), api.OK)
			if n := s.Latest(name); n != version {
				t.Fatal(name, version, n)
			}
		}
		mustDefine(t, s, class(name, api.MaxVersion+1), api.ErrArg)
		mustDefine(t, s, class(name, api.MaxVersion), api.ErrDefined)
		mustDefine(t, s, class(name, 1), api.ErrDefined)
	}
	for version := 1; version <= 96; version++ {
		mustDefine(t, s, class("e", version), api.OK)
	}
	mustDefine(t, s, class("e", 97), api.ErrLong)
	mustDefine(t, s, class("f", 1), api.ErrLong)
	if got := s.Names(); !slices.Equal(got, append(names, "e")) || s.Latest("e") != 96 || s.Latest("f") != 0 {
		t.Error(got, s.Latest("e"), s.Latest("f"))
	}
	for version := -1; version <= api.MaxVersion+2; version++ {
		if c, e := s.Class("a", version); (e == api.OK) != (1 <= version && version <= 1000) || e == api.OK && c.Version != version {
			t.Error(version, c, e)
		}
	}
}

// P6.3: MaxDepth classes from one up to one without a parent, by one name or by many.
func TestDefineDeep(t *testing.T) {
	s := defined(t, class("c1", 1, some("f1")), class("v", 1, some("f1")))
	for n := 2; n <= api.MaxDepth; n++ {
		mustDefine(t, s, child(fmt.Sprint("c", n), 1, fmt.Sprint("c", n-1), 1, some(fmt.Sprint("f", n))), api.OK)
		mustDefine(t, s, child("v", n, "v", n-1, some(fmt.Sprint("f", n))), api.OK)
	}
	mustDefine(t, s, child("c65", 1, "c64", 1), api.ErrParent)
	mustDefine(t, s, child("c65", 1, "c64", 1, some("f1")), api.ErrParent)
	mustDefine(t, s, child("v", 65, "v", 64), api.ErrParent)
	mustDefine(t, s, child("c65", 1, "v", 64), api.ErrParent)
	mustDefine(t, s, child("c65", 1, "c63", 1, some("f64")), api.OK)
	mustDefine(t, s, class("v", 65), api.OK)
	for _, name := range []string{"c64", "c65"} {
		fields, e := s.Fields(name, 1)
		if e != api.OK || len(fields) != 64 || !slices.IsSortedFunc(fields, func(a, b api.FieldOf) int { return strings.Compare(a.Name, b.Name) }) {
			t.Error(name, len(fields), e)
		}
		if !s.Is(name, 1, "c1") || !s.Is(name, 1, "c63") || s.Is(name, 1, "v") || s.Is("c63", 1, name) {
			t.Error(name, "is not what its parents are")
		}
	}
	if !s.Is("v", 64, "v") || s.Is("v", 64, "c1") {
		t.Error("v")
	}
}

// P6.3: MaxItems fields in all: of a class and its parents together, not of other classes.
func TestDefineManyFields(t *testing.T) {
	s := defined(t, class("a", 1, someFields(0, api.MaxItems)...), class("a", 2, someFields(0, api.MaxItems)...), class("b", 1, someFields(0, api.MaxItems-3)...))
	mustDefine(t, s, child("c", 1, "a", 1), api.OK)
	mustDefine(t, s, child("c", 2, "a", 1, some("g")), api.ErrLong)
	mustDefine(t, s, child("c", 2, "c", 1, some("g")), api.ErrLong)
	mustDefine(t, s, child("d", 1, "b", 1, some("g"), some("h")), api.OK)
	mustDefine(t, s, child("e", 1, "d", 1, some("a"), some("z")), api.ErrLong)
	mustDefine(t, s, child("e", 1, "d", 1, some("a")), api.OK)
	mustDefine(t, s, child("f", 1, "e", 1, some("b")), api.ErrLong)
	mustDefine(t, s, child("f", 1, "b", 1, someFields(api.MaxItems, 4)...), api.ErrLong)
	mustDefine(t, s, child("f", 1, "b", 1, someFields(api.MaxItems, 3)...), api.OK)
	fields, e := s.Fields("e", 1)
	if e != api.OK || len(fields) != api.MaxItems || fields[0].Name != "a" || fields[1].Name != "f000000" || fields[4095].Name != "h" {
		t.Error(len(fields), e)
	}
}

// P6.4: what was defined is told, with all that plays no part left out.
func TestClass(t *testing.T) {
	l := read(t, "class person 1 { age: int = 0 name: text } class person 2 abstract { full: text was name } class student 1 : person 1 { school: text | nil = nil }")
	s := defined(t, l...)
	for _, c := range l {
		if got, e := s.Class(c.Name, c.Version); plain(got) != plain(c) || e != api.OK {
			t.Error(plain(got), e)
		}
	}
	for _, x := range []struct {
		name    string
		version int
	}{{"person", 0}, {"person", 3}, {"person", -1}, {"student", 2}, {"perso", 1}, {"persons", 1}, {"", 0}, {"", 1}, {"Person", 1}, {"no name", 1}, {strings.Repeat("x", 100), 1 << 40}} {
		c, e := s.Class(x.name, x.version)
		fields, fe := s.Fields(x.name, x.version)
		r, re := s.New(x.name, x.version)
		if plain(c) != plain(api.Class{}) || e != api.ErrClass || len(fields) != 0 || fe != api.ErrClass || r != nil || re != api.ErrClass || s.Is(x.name, x.version, x.name) || s.Is(x.name, x.version, "person") {
			t.Error(x, c, e, fields, fe, r, re)
		}
	}
	clutter := api.FieldOf{Name: "x", Was: "y", Type: sample.Cluttered(sample.OpenDict("a?", sample.Only("b"))), Default: api.Term{Kind: 99, Text: "x"}}
	kept := api.FieldOf{Name: "y", Type: sample.Cluttered(sample.NoValue()), Has: true, Default: sample.ClutteredTerm(sample.Term(api.List{sample.Record("r", 1, sample.Field("a", nil))}))}
	s = defined(t, class("a", 1, clutter, kept))
	want := class("a", 1, was(field("x", sample.OpenDict("a?", sample.Only("b"))), "y"), with(field("y", sample.NoValue()), api.List{sample.Record("r", 1, sample.Field("a", nil))}))
	if c, e := s.Class("a", 1); plain(c) != plain(want) || e != api.OK {
		t.Error(plain(c), e)
	}
	if f, e := s.Fields("a", 1); plain(f) != plain(want.Fields) || e != api.OK {
		t.Error(plain(f), e)
	}
}

// P6.4: Latest and Names, of an empty Schema and of one that grows.
func TestLatestAndNames(t *testing.T) {
	var s schema.Schema
	if s.Latest("a") != 0 || s.Latest("") != 0 || len(s.Names()) != 0 {
		t.Error("something is there")
	}
	if c, e := s.Class("a", 1); plain(c) != plain(api.Class{}) || e != api.ErrClass {
		t.Error(c, e)
	}
	for _, x := range []struct {
		c      api.Class
		latest int
		names  string
	}{
		{class("m", 1), 1, "[m]"}, {class("m", 2), 2, "[m]"}, {class("b", 1), 1, "[b m]"}, {class("z", 1), 1, "[b m z]"}, {class("a_", 1), 1, "[a_ b m z]"}, {class("a0", 1), 1, "[a0 a_ b m z]"}, {class("aa", 1), 1, "[a0 a_ aa b m z]"}, {class("a", 1), 1, "[a a0 a_ aa b m z]"}, {class("m", 3), 3, "[a a0 a_ aa b m z]"}, {class("a", 2), 2, "[a a0 a_ aa b m z]"},
	} {
		mustDefine(t, &s, x.c, api.OK)
		if s.Latest(x.c.Name) != x.latest || fmt.Sprint(s.Names()) != x.names {
			t.Error(x.c.Name, s.Latest(x.c.Name), s.Names())
		}
	}
	if s.Latest("mm") != 0 || s.Latest("") != 0 || s.Latest("M") != 0 {
		t.Error("the latest of what is not there")
	}
}

// fieldNames is the names of all fields of a version.
func fieldNames(t *testing.T, s *schema.Schema, name string, version int) string {
	t.Helper()
	fields, e := s.Fields(name, version)
	if e != api.OK {
		t.Fatal(name, version, e)
	}
	var l []string
	for _, f := range fields {
		l = append(l, f.Name)
	}
	return strings.Join(l, " ")
}

// P6.5: Fields and Is, through parents of other versions and of one's own name.
func TestFieldsAndIs(t *testing.T) {
	s := defined(t, read(t, `
		class a 1 { m: int = 1 was old }
		class a 2 { k: text z: any }
		class b 1 : a 1 abstract { c: int n: nil }
		class b 2 : a 2 { b: int }
		class c 1 : b 1 { a: any o: any = 3 }
		class c 2 : c 1 { }
		class d 1 : b 2 { zz: any }
		class e 1 { }`)...)
	for _, x := range []struct {
		name    string
		version int
		fields  string
		is      string
	}{
		{"a", 1, "m", "a"}, {"a", 2, "k z", "a"}, {"b", 1, "c m n", "a b"}, {"b", 2, "b k z", "a b"}, {"c", 1, "a c m n o", "a b c"}, {"c", 2, "a c m n o", "a b c"}, {"d", 1, "b k z zz", "a b d"}, {"e", 1, "", "e"},
	} {
		if got := fieldNames(t, s, x.name, x.version); got != x.fields {
			t.Errorf("%s %d: %s", x.name, x.version, got)
		}
		var is []string
		for _, of := range []string{"", "a", "b", "c", "d", "e", "f", "A"} {
			if s.Is(x.name, x.version, of) {
				is = append(is, of)
			}
		}
		if strings.Join(is, " ") != x.is {
			t.Errorf("%s %d is %s", x.name, x.version, is)
		}
	}
	fields, _ := s.Fields("c", 2)
	if want := []api.FieldOf{field("a", sample.AnyValue()), field("c", sample.OfKind(api.KInt)), was(with(field("m", sample.OfKind(api.KInt)), int64(1)), "old"), field("n", sample.OfKind(api.KNil)), with(field("o", sample.AnyValue()), int64(3))}; plain(fields) != plain(want) {
		t.Error(plain(fields))
	}
	if s.Is("a", 3, "a") || s.Is("f", 1, "f") || s.Is("", 0, "") || s.Is("b", 3, "a") {
		t.Error("what is not there is something")
	}
}

// The chapter's examples.
func TestDefineExamples(t *testing.T) {
	s := defined(t, read(t, "class person 1 { age: int = 0 name: text } class student 1 : person 1 { school: text | nil = nil }")...)
	if got := fieldNames(t, s, "student", 1); got != "age name school" {
		t.Error(got)
	}
	if r, e := s.New("student", 1); r != nil || e != api.ErrNeeds {
		t.Error(r, e)
	}
	mustDefine(t, s, class("person", 3), api.ErrGap)
	mustDefine(t, s, child("student", 2, "person", 1, some("age")), api.ErrField)
}
