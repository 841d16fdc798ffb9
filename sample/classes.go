package sample

import (
	"strconv"
	"strings"

	"tenon/api"
)

// Class is a class that has no parent.
func Class(name string, version int, fields ...api.FieldOf) api.Class {
	return api.Class{Name: name, Version: version, Fields: fields}
}

// Child is a class that has one.
func Child(name string, version int, parent string, parentVersion int, fields ...api.FieldOf) api.Class {
	return api.Class{Name: name, Version: version, Parent: parent, ParentVersion: parentVersion, Fields: fields}
}

// Abstract is the same class, without records of its own.
func Abstract(c api.Class) api.Class {
	c.Abstract = true
	return c
}

// FieldOf is a class's field without a default.
func FieldOf(name string, t api.Type) api.FieldOf { return api.FieldOf{Name: name, Type: t} }

// With is the same field with a default, which can be.
func With(f api.FieldOf, v any) api.FieldOf {
	f.Has, f.Default = true, Term(v)
	return f
}

// Was is the same field, which had another name.
func Was(f api.FieldOf, name string) api.FieldOf {
	f.Was = name
	return f
}

// Some is a field of any values, with nil as its default.
func Some(name string) api.FieldOf { return With(FieldOf(name, AnyValue()), nil) }

// SomeFields is n fields whose names rise, from the one of that number on.
func SomeFields(first, n int) []api.FieldOf {
	l := make([]api.FieldOf, n)
	for i := range l {
		l[i] = Some("f" + strconv.Itoa(1000000 + first + i)[1:])
	}
	return l
}

// WrongClass is a class that can't be, and why.
type WrongClass struct {
	Name string
	C    api.Class
	Why  api.Errno
}

// wrongField is a class whose second field is that one.
func wrongField(f api.FieldOf) api.Class { return Class("a", 1, Some("a"), f, Some("z")) }

// WrongClasses is what can't be: each rule broken by itself, and each order of errors.
func WrongClasses() []WrongClass {
	many := SomeFields(0, api.MaxItems+1)
	badType, badDefault := FieldOf("b", api.Type{}), api.FieldOf{Name: "b", Type: AnyValue(), Has: true}
	l := []WrongClass{
		{"zero", api.Class{}, api.ErrName}, {"all wrong", Child("A", 0, "B", 0, many...), api.ErrName}, {"all but the name", Child("a", 0, "B", 0, many...), api.ErrArg}, {"all from the parent on", Child("a", 1, "B", 0, many...), api.ErrName}, {"the parent's version and the fields", Child("a", 1, "b", 0, many...), api.ErrArg}, {"a version without a parent, and the fields", Child("a", 1, "", 1, many...), api.ErrArg}, {"too many ahead of wrong ones", Class("a", 1, append(many, api.FieldOf{})...), api.ErrLong},
		{"version 0", Class("a", 0), api.ErrArg}, {"version below", Class("a", -1), api.ErrArg}, {"version beyond", Class("a", api.MaxVersion+1), api.ErrArg},
		{"parent's version 0", Child("a", 1, "b", 0), api.ErrArg}, {"parent's version below", Child("a", 1, "b", -1), api.ErrArg}, {"parent's version beyond", Child("a", 1, "b", api.MaxVersion+1), api.ErrArg}, {"no parent's version below", Child("a", 1, "", -1), api.ErrArg}, {"no parent's version", Child("a", 1, "", 1), api.ErrArg},
		{"too many", Class("a", 1, many...), api.ErrLong},
		{"a name again", Class("a", 1, Some("b"), Some("b")), api.ErrName}, {"names falling", Class("a", 1, Some("b"), Some("a")), api.ErrName}, {"no name ahead of no type", wrongField(FieldOf("B", api.Type{})), api.ErrName}, {"no was ahead of no type", wrongField(Was(badType, "B")), api.ErrName}, {"no type ahead of no default", wrongField(api.FieldOf{Name: "b", Has: true}), api.ErrType}, {"no default", wrongField(badDefault), api.ErrKind},
		{"the first field first", Class("a", 1, badDefault, FieldOf("C", api.Type{})), api.ErrKind}, {"the first field first, by type", Class("a", 1, badType, Some("b")), api.ErrType}, {"the second field behind a good one", Class("a", 1, Some("b"), Some("a"), badType), api.ErrName},
	}
	for _, name := range BadNames() {
		l = append(l, WrongClass{"class " + name, Class(name, 1), api.ErrName}, WrongClass{"field " + name, wrongField(Some(name)), api.ErrName})
		if name != "" {
			l = append(l, WrongClass{"parent " + name, Child("a", 1, name, 1), api.ErrName}, WrongClass{"was " + name, wrongField(Was(Some("b"), name)), api.ErrName})
		}
	}
	for _, x := range WrongTypes() {
		l = append(l, WrongClass{"type " + x.Name, wrongField(FieldOf("b", x.T)), api.ErrType})
	}
	for _, x := range []struct {
		name string
		t    api.Term
		why  api.Errno
	}{
		{"zero", api.Term{}, api.ErrKind}, {"nothing", api.Term{Kind: api.KNothing}, api.ErrNil}, {"of no kind", api.Term{Kind: 99}, api.ErrKind}, {"without a class", api.Term{Kind: api.KRecord, Version: 1}, api.ErrName}, {"without a version", api.Term{Kind: api.KRecord, Class: "a"}, api.ErrArg}, {"too long", api.Term{Kind: api.KText, Text: strings.Repeat("x", api.MaxText+1)}, api.ErrLong}, {"with nothing in it", api.Term{Kind: api.KList, List: []api.Term{{Kind: api.KNil}, {Kind: api.KNothing}, {}}}, api.ErrNil}, {"with a bad name", api.Term{Kind: api.KDict, Fields: []api.Entry{{Name: "A"}}}, api.ErrName},
	} {
		l = append(l, WrongClass{"default " + x.name, wrongField(api.FieldOf{Name: "b", Type: AnyValue(), Has: true, Default: x.t}), x.why})
	}
	return l
}
