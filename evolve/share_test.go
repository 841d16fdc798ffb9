package evolve_test

import (
	"slices"
	"testing"

	"tenon/api"
	"tenon/evolve"
	"tenon/sample"
	"tenon/schema"
	"tenon/value"
)

// sharing is two versions of class p: fields that are kept, renamed, made twice of one, and told by defaults, with clutter and spare room in their types and defaults.
func sharing() []api.Class {
	holds := sample.ClutteredTerm(sample.Term(val(`[#0102, {a: [nil]}, q/1{b: #03}]`)))
	types := sample.Cluttered(typ("list | dict | record | bytes | is [#01, {a: [1]}]"))
	f := func(name, was string, has bool) api.FieldOf {
		x := api.FieldOf{Name: name, Was: was, Type: types, Has: has}
		if has {
			x.Default = holds
		}
		return x
	}
	return []api.Class{
		sample.Class("p", 1, append(make([]api.FieldOf, 0, 9), f("a", "", false), f("b", "", true))...),
		sample.Class("p", 2, append(make([]api.FieldOf, 0, 9), f("b", "", true), f("c", "a", false), f("d", "a", true), f("e", "", true), f("f", "", true))...),
	}
}

// spoilClasses writes over all that classes hold, spare room too.
func spoilClasses(l []api.Class) {
	for _, c := range l {
		fields := c.Fields[:cap(c.Fields)]
		for i, f := range fields {
			fields[i] = api.FieldOf{Name: "spoilt"}
			sample.SpoilType(f.Type)
			sample.SpoilTerm(f.Default)
		}
	}
}

// answers is all that is told of class p, as text.
func answers(t *testing.T, s *schema.Schema, c api.Converter, fields api.Dict) string {
	t.Helper()
	l, e := evolve.Changes(s, "p", 1, 2)
	n, f := evolve.Needs(s, "p", 2, 1)
	d, g := c.Convert(fields)
	if e != api.OK || f != api.OK || g != api.OK {
		t.Fatal(e, f, g)
	}
	back, e := c.(api.Reversible).Back(d)
	if e != api.OK {
		t.Fatal(e)
	}
	return said(l) + told(d) + told(back) + classesOf(s, "p") + abilities(c) + string(rune('0'+len(n)))
}

// parts is what fields hold.
func parts(d api.Dict) []any {
	var l []any
	for _, f := range d {
		l = append(l, f.Value)
	}
	return l
}

// roomyFields is fields that hold one value, with spare room and one list at many places in it, twice.
func roomyFields() api.Dict {
	v := sample.Twofold()
	return append(make(api.Dict, 0, 4), sample.Field("a", v), sample.Field("b", v), sample.Field("room", "x"), sample.Field("room", "y"))[:2]
}

// Memory: no call changes what it is handed, spare room too.
func TestChangesNothing(t *testing.T) {
	s := defined(t, sharing()...)
	before := classesOf(s, "p")
	d, want := roomyFields(), roomyFields()
	see := func(what string) {
		t.Helper()
		if !value.Same(d, want) || !sample.RoomKept(d[0].Value) || d[:3][2] != sample.Field("room", "x") || d[:4][3] != sample.Field("room", "y") {
			t.Fatal(what, "changes the fields")
		}
		if classesOf(s, "p") != before {
			t.Fatal(what, "changes the Schema")
		}
	}
	l := sharing()
	evolve.Sound(l[1])
	if e := s.Define(l[1]); e != api.ErrDefined || classesOf(defined(t, l...), "p") != before {
		t.Error("Sound changes the class")
	}
	evolve.Conforms(s, sample.Record("p", 1, d...))
	see("Conforms")
	evolve.Changes(s, "p", 1, 2)
	evolve.Needs(s, "p", 2, 1)
	for _, way := range [][2]int{{1, 2}, {2, 1}} {
		c := auto(t, s, way[0], way[1])
		c.Convert(d)
		see("Convert")
		if r, ok := c.(api.Reversible); ok {
			r.Back(d)
			see("Back")
		}
	}
	p := auto(t, made(t, "class p 1 { a: any b: any } class p 2 { a: list b: list }"), 1, 2).(api.Partial)
	if !p.Takes(d) {
		t.Error("it does not take them")
	}
	see("Takes")
}

// Memory, P8.5: what Convert and Back answer shares nothing with the fields, the converter, another answer, nor one of its lists with another.
func TestConvertApart(t *testing.T) {
	s := defined(t, sharing()...)
	c := auto(t, s, 1, 2)
	r := c.(api.Reversible)
	d := roomyFields()
	first, e := c.Convert(d)
	second, _ := c.Convert(d)
	third, _ := c.Convert(d)
	want, _ := value.Copy(first)
	if e != api.OK {
		t.Fatal(e)
	}
	sample.Spoil(d)
	if !value.Same(first, want) || !value.Same(second, want) {
		t.Fatal("an answer changes with the fields")
	}
	if at, ok := sample.Apart(first, second); !ok {
		t.Fatal(at, "shares memory with another answer")
	}
	back, _ := r.Back(third)
	again, _ := r.Back(third)
	if at, ok := sample.Apart(back, third, again); !ok {
		t.Fatal(at, "shares memory with what it was made of, or with another answer")
	}
	d = roomyFields()
	fresh, _ := c.Convert(d)
	if !value.Same(fresh, want) {
		t.Fatal("the converter changes with what it answered")
	}
	if at, ok := sample.Apart(parts(fresh)...); !ok {
		t.Error(at, "shares memory with another field")
	}
	fresh, _ = c.Convert(d)
	for _, f := range fresh {
		inner, _ := f.Value.(api.List)
		if at, ok := sample.Apart(inner...); !ok {
			t.Error(f.Name, at, "shares memory with another part")
		}
	}
	if !value.Same(d, roomyFields()) {
		t.Error("the fields change with what was answered")
	}
}

// Memory: whoever writes into what was handed in, or into what was answered, changes nothing of the Schema, the converter, or other answers.
func TestWrittenInto(t *testing.T) {
	l := append(sharing(), sample.Class("p", 3, sample.FieldOf("y", typ("int")), sample.FieldOf("z", typ("int"))))
	s := defined(t, l...)
	c := auto(t, s, 1, 2)
	d := dict(`{a: [#01, [#02]], b: {c: [#03]}}`)
	want := answers(t, s, c, d)
	see := func(what string) {
		t.Helper()
		if answers(t, s, c, dict(`{a: [#01, [#02]], b: {c: [#03]}}`)) != want {
			t.Fatal("something changes with", what)
		}
	}
	for range 2 {
		x, _ := evolve.Changes(s, "p", 1, 2)
		other, _ := evolve.Changes(s, "p", 1, 2)
		kept := slices.Clone(other)
		clear(x[:cap(x)])
		if !slices.Equal(other, kept) {
			t.Fatal("answers of Changes share memory")
		}
		see("Changes")
		made, _ := c.Convert(d)
		sample.Spoil(made)
		see("Convert")
		made, _ = c.Convert(d)
		back, _ := c.(api.Reversible).Back(made)
		sample.Spoil(back)
		sample.Spoil(made)
		see("Back")
		n, _ := evolve.Needs(s, "p", 2, 3)
		more, e := evolve.Needs(s, "p", 2, 3)
		clear(n[:cap(n)])
		if !slices.Equal(more, []string{"y", "z"}) || e != api.OK {
			t.Fatal("answers of Needs share memory:", more, e)
		}
	}
	spoilClasses(l)
	see("the classes that were defined")
	f, _ := s.Fields("p", 2)
	spoilClasses([]api.Class{{Fields: f}})
	see("the fields that the Schema told")
}
