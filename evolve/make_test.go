package evolve_test

import (
	"fmt"
	"strings"
	"testing"

	"tenon/api"
	"tenon/evolve"
	"tenon/sample"
	"tenon/schema"
	"tenon/text"
	"tenon/value"
)

// What the tests of this package are made of.

// made is a Schema of the classes of a text, all of which must be taken up.
func made(t *testing.T, s string) *schema.Schema {
	t.Helper()
	l, at, e := schema.Parse(s)
	if e != api.OK {
		t.Fatal(s, at, e)
	}
	return defined(t, l...)
}

// defined is a Schema of those classes, all of which must be taken up.
func defined(t *testing.T, l ...api.Class) *schema.Schema {
	t.Helper()
	s := new(schema.Schema)
	for _, c := range l {
		if e := s.Define(c); e != api.OK {
			t.Fatal(c.Name, c.Version, e)
		}
	}
	return s
}

// typ is the type of a text, which must be one.
func typ(s string) api.Type {
	t, at, e := schema.ParseType(s)
	if e != api.OK {
		panic(fmt.Sprint(s, at, e))
	}
	return t
}

// val is the value of a text, which must be one.
func val(s string) any {
	v, at, e := text.Parse(s)
	if e != api.OK {
		panic(fmt.Sprint(s, at, e))
	}
	return v
}

// dict is the fields of a text, which must be a dict's.
func dict(s string) api.Dict { return val(s).(api.Dict) }

// told is a value as it is read.
func told(v any) string {
	s, e := text.Print(v)
	if e != api.OK {
		s = fmt.Sprint("error ", int(e))
	}
	return short(s)
}

func short(s string) string {
	if len(s) > 200 {
		s = s[:100] + " .. " + s[len(s)-100:]
	}
	return s
}

// classesOf is the text of all versions of those classes.
func classesOf(s *schema.Schema, names ...string) string {
	var l []api.Class
	for _, name := range names {
		for version := 1; version <= s.Latest(name); version++ {
			c, _ := s.Class(name, version)
			l = append(l, c)
		}
	}
	out, _ := schema.Print(l)
	return out
}

// said is what has become of fields, in short: of each its name, <, the name that it had, and the number.
func said(l []api.Evolution) string {
	var out []string
	for _, x := range l {
		out = append(out, fmt.Sprintf("%s<%s %d", x.Name, x.Was, x.What))
	}
	return strings.Join(out, ", ")
}

// mustChange holds what Changes and Needs tell of class p against what is wanted.
func mustChange(t *testing.T, s *schema.Schema, from, to int, changes, needs string) {
	t.Helper()
	if l, e := evolve.Changes(s, "p", from, to); said(l) != changes || e != api.OK {
		t.Errorf("%sChanges(%d, %d): %s; %d, want %s", classesOf(s, "q", "p"), from, to, said(l), e, changes)
	}
	if l, e := evolve.Needs(s, "p", from, to); strings.Join(l, " ") != needs || e != api.OK {
		t.Errorf("%sNeeds(%d, %d): %s; %d, want %s", classesOf(s, "q", "p"), from, to, l, e, needs)
	}
	_, e := evolve.Auto(s, "p", from, to)
	if (e == api.ErrNeeds) != (needs != "") {
		t.Errorf("%sAuto(%d, %d): %d", classesOf(s, "q", "p"), from, to, e)
	}
}

// auto is the converter of class p, which must be there, and leads from that version to that one.
func auto(t *testing.T, s *schema.Schema, from, to int) api.Converter {
	t.Helper()
	c, e := evolve.Auto(s, "p", from, to)
	if c == nil || e != api.OK {
		t.Fatalf("%sAuto(%d, %d): %v, %d", classesOf(s, "q", "p"), from, to, c, e)
	}
	if class, version := c.From(); class != "p" || version != from || c.To() != to {
		t.Errorf("Auto(%d, %d): from %s %d to %d", from, to, class, version, c.To())
	}
	return c
}

// abilities is what a converter has beside, by assertion.
func abilities(c api.Converter) string {
	out := ""
	if _, ok := c.(api.Partial); ok {
		out += "partial "
	}
	if _, ok := c.(api.Reversible); ok {
		out += "reversible "
	}
	if _, ok := c.(api.Costed); ok {
		out += "costed "
	}
	return strings.TrimSpace(out)
}

// mustHave holds a converter's abilities against what is wanted.
func mustHave(t *testing.T, c api.Converter, want string) {
	t.Helper()
	if got := abilities(c); got != want {
		t.Errorf("%q, want %q", got, want)
	}
}

// mustTake holds what Takes tells against what Convert answered, if the converter is Partial.
func mustTake(t *testing.T, c api.Converter, fields api.Dict, e api.Errno) {
	t.Helper()
	if p, ok := c.(api.Partial); ok && p.Takes(fields) != (e == api.OK) {
		t.Errorf("Takes(%s): %v, and Convert: %d", told(fields), p.Takes(fields), e)
	}
}

// mustConvert holds what comes of fields against other fields.
func mustConvert(t *testing.T, c api.Converter, fields, want api.Dict) {
	t.Helper()
	d, e := c.Convert(fields)
	if !value.Same(d, want) || e != api.OK {
		t.Errorf("Convert(%s): %s, %d, want %s", told(fields), told(d), e, told(want))
	}
	mustTake(t, c, fields, e)
}

// mustRefuse is of fields that are not converted.
func mustRefuse(t *testing.T, c api.Converter, fields api.Dict, want api.Errno) {
	t.Helper()
	d, e := c.Convert(fields)
	if d != nil || e != want {
		t.Errorf("Convert(%s): %s, %d, want %d", told(fields), told(d), e, want)
	}
	mustTake(t, c, fields, e)
}

// mustGoBack holds what Back makes of fields against other fields.
func mustGoBack(t *testing.T, c api.Converter, fields, want api.Dict) {
	t.Helper()
	r, ok := c.(api.Reversible)
	if !ok {
		t.Fatal("it can't be gone back")
	}
	if d, e := r.Back(fields); !value.Same(d, want) || e != api.OK {
		t.Errorf("Back(%s): %s, %d, want %s", told(fields), told(d), e, told(want))
	}
}

// sized is a value of that many parts, from 2 on.
func sized(n int) any { return sample.Numbered(n-1, nil) }
