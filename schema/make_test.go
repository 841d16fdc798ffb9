package schema_test

import (
	"fmt"
	"strings"
	"testing"

	"tenon/api"
	"tenon/sample"
	"tenon/schema"
	"tenon/text"
)

// What the tests of this package are made of.

// plain is all that a type, a field or a class says, nil and empty lists alike.
func plain(x any) string { return strings.ReplaceAll(fmt.Sprintf("%#v", x), "(nil)", "{}") }

func short(s string) string {
	if len(s) > 100 {
		s = s[:50] + " .. " + s[len(s)-50:]
	}
	return fmt.Sprintf("%q", s)
}

// fault is a text that is refused, at which place and why.
type fault struct {
	s   string
	at  int
	why api.Errno
}

// mustRefuseType holds texts against ParseType.
func mustRefuseType(t *testing.T, all ...fault) {
	t.Helper()
	for _, x := range all {
		if got, at, e := schema.ParseType(x.s); plain(got) != plain(api.Type{}) || at != x.at || e != x.why {
			t.Errorf("ParseType(%s): %d, %d, want %d, %d", short(x.s), at, e, x.at, x.why)
		}
	}
}

// mustRefuse holds texts against Parse.
func mustRefuse(t *testing.T, all ...fault) {
	t.Helper()
	for _, x := range all {
		if got, at, e := schema.Parse(x.s); len(got) != 0 || at != x.at || e != x.why {
			t.Errorf("Parse(%s): %d, %d, want %d, %d", short(x.s), at, e, x.at, x.why)
		}
	}
}

// mustReadType holds a text against ParseType: it is that type's.
func mustReadType(t *testing.T, s string, want api.Type) {
	t.Helper()
	if got, at, e := schema.ParseType(s); e != api.OK || at != 0 || plain(got) != plain(want) {
		t.Errorf("ParseType(%s): %s, %d, %d", short(s), short(plain(got)), at, e)
	}
}

// mustRead holds a text against Parse: it is those classes'.
func mustRead(t *testing.T, s string, want ...api.Class) {
	t.Helper()
	if got, at, e := schema.Parse(s); e != api.OK || at != 0 || plain(got) != plain(want) {
		t.Errorf("Parse(%s): %s, %d, %d, want %s", short(s), short(plain(got)), at, e, short(plain(want)))
	}
}

// Classes and their fields, by short names.
var (
	class, child, abstract = sample.Class, sample.Child, sample.Abstract
	field, with, was       = sample.FieldOf, sample.With, sample.Was
	some, someFields       = sample.Some, sample.SomeFields
)

// read is the classes of a text, which must be one.
func read(t *testing.T, s string) []api.Class {
	t.Helper()
	l, at, e := schema.Parse(s)
	if e != api.OK || at != 0 {
		t.Fatalf("Parse(%s): %d, %d", short(s), at, e)
	}
	return l
}

// defined is a Schema of those classes, all of which must be taken up.
func defined(t *testing.T, l ...api.Class) *schema.Schema {
	t.Helper()
	s := new(schema.Schema)
	for _, c := range l {
		mustDefine(t, s, c, api.OK)
	}
	return s
}

func mustDefine(t *testing.T, s *schema.Schema, c api.Class, want api.Errno) {
	t.Helper()
	if e := s.Define(c); e != want {
		t.Errorf("Define(%s %d : %q %d, %d fields): %d, want %d", c.Name, c.Version, c.Parent, c.ParentVersion, len(c.Fields), e, want)
	}
}

// told is all that a Schema tells of those names, of versions that are there and of some that are not.
func told(s *schema.Schema, names ...string) string {
	var b strings.Builder
	fmt.Fprint(&b, s.Names())
	for _, name := range names {
		latest := s.Latest(name)
		fmt.Fprint(&b, name, latest)
		for version := -1; version <= latest+2; version++ {
			b.WriteString(toldOf(s, name, version, names...))
		}
	}
	return b.String()
}

// toldOf is all that a Schema tells of one version.
func toldOf(s *schema.Schema, name string, version int, names ...string) string {
	c, e := s.Class(name, version)
	fields, fe := s.Fields(name, version)
	r, re := s.New(name, version)
	record := ""
	if re == api.OK {
		record, _ = text.Print(r)
	}
	out := fmt.Sprint(plain(c), e, plain(fields), fe, record, re)
	for _, of := range names {
		out += fmt.Sprint(s.Is(name, version, of))
	}
	return out
}
