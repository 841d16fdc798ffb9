package schema_test

import (
	"fmt"
	"reflect"
	"strings"
	"testing"

	"tenon/api"
	"tenon/sample"
	"tenon/schema"
	"tenon/value"
)

// eachList shows all lists within what a pointer leads to, spare room too, the outer ones first.
func eachList(pointer any, show func(reflect.Value)) {
	var in func(reflect.Value)
	in = func(v reflect.Value) {
		switch v.Kind() {
		case reflect.Struct:
			for i := range v.NumField() {
				in(v.Field(i))
			}
		case reflect.Slice:
			v = v.Slice(0, v.Cap())
			show(v)
			for i := range v.Len() {
				in(v.Index(i))
			}
		}
	}
	in(reflect.ValueOf(pointer).Elem())
}

// whole is all that the lists within what a pointer leads to hold, spare room too.
func whole(pointer any) string {
	var b strings.Builder
	eachList(pointer, func(l reflect.Value) { fmt.Fprintf(&b, "%#v\n", l.Interface()) })
	return b.String()
}

// spoil writes over all lists within what a pointer leads to, spare room too.
func spoil(pointer any) {
	var all []reflect.Value
	eachList(pointer, func(l reflect.Value) { all = append(all, l) })
	for _, l := range all {
		for i := range l.Len() {
			switch v := l.Index(i); v.Kind() {
			case reflect.Bool:
				v.SetBool(!v.Bool())
			case reflect.Uint8:
				v.SetUint(v.Uint() + 1)
			default:
				v.SetZero()
			}
		}
	}
}

// apart sees that no two of all lists within what pointers lead to share memory, spare room too.
func apart(t *testing.T, what string, pointers ...any) {
	t.Helper()
	type room struct{ from, to uintptr }
	var rooms []room
	for i, p := range pointers {
		eachList(p, func(l reflect.Value) {
			from := l.Pointer()
			to := from + uintptr(l.Cap())*l.Type().Elem().Size()
			for _, r := range rooms {
				if from < r.to && r.from < to {
					t.Errorf("%s: %d shares a %v", what, i, l.Type())
				}
			}
			rooms = append(rooms, room{from, to})
		})
	}
}

// sharing is a class that holds one type and one term at several places each, with clutter and spare room.
func sharing(name string) api.Class {
	term := sample.ClutteredTerm(sample.Term(api.List{[]byte{1, 2}, api.Dict{sample.Field("a", api.List{nil})}, sample.Record("r", 1, sample.Field("b", []byte{3}))}))
	only := api.Type{Kind: api.TOnly, Only: term}
	inner := sample.Cluttered(sample.OpenDict("a", sample.ListOf(sample.OfKind(api.KInt)), "b?", sample.AnyValue()))
	inner.Parts[1] = only
	outer := sample.Cluttered(sample.Union(sample.AnyValue(), sample.AnyValue(), sample.AnyValue()))
	copy(outer.Parts, []api.Type{inner, inner, only})
	fields := make([]api.FieldOf, 0, 5)
	for _, f := range []string{"f", "g", "h", "spare", "spare"} {
		fields = append(fields, api.FieldOf{Name: f + name, Was: "was", Type: outer, Has: true, Default: term})
	}
	return class(name, 1, fields[:3]...)
}

// shared is a Schema of two such classes, one the other one's parent, and what it was made of.
func shared(t *testing.T) (*schema.Schema, []api.Class) {
	t.Helper()
	a, b := sharing("a"), sharing("b")
	b.Parent, b.ParentVersion = "a", 1
	return defined(t, a, b), append(make([]api.Class, 0, 4), a, b, a, b)[:2]
}

// Memory: no call changes what it is handed, spare room too.
func TestChangesNothing(t *testing.T) {
	var s schema.Schema
	_, l := shared(t)
	before := whole(&l)
	for _, c := range l {
		mustDefine(t, &s, c, api.OK)
		mustDefine(t, &s, c, api.ErrDefined)
		for _, f := range c.Fields {
			schema.PrintType(f.Type)
		}
	}
	mustDefine(t, &s, child("c", 1, "b", 1, l[0].Fields...), api.ErrField)
	told(&s, "a", "b")
	if _, e := schema.Print(l); e != api.OK || whole(&l) != before {
		t.Error("what was handed in is changed", e)
	}
}

// Memory, P6.8: what was handed in may be written into: the Schema does not hear of it.
func TestKeepsCopies(t *testing.T) {
	s, l := shared(t)
	before := told(s, "a", "b")
	spoil(&l)
	if told(s, "a", "b") != before {
		t.Error("the Schema changes with what it was handed")
	}
}

// Memory, P6.8: what is answered may be written into: neither the Schema nor another answer hears of it.
func TestAnswersCopies(t *testing.T) {
	s, l := shared(t)
	before := told(s, "a", "b")
	for range 2 {
		a, _ := s.Class("a", 1)
		b, _ := s.Class("b", 1)
		again, _ := s.Class("b", 1)
		f, _ := s.Fields("b", 1)
		g, _ := s.Fields("b", 1)
		h, _ := s.Fields("a", 1)
		n, m := s.Names(), s.Names()
		apart(t, "answers", &a, &b, &again, &f, &g, &h, &n, &m)
		for _, answer := range []any{&a, &b, &again, &f, &g, &h, &n, &m} {
			spoil(answer)
		}
		if told(s, "a", "b") != before {
			t.Fatal("the Schema changes with what it told")
		}
	}
	c, _ := s.Class("a", 1)
	f, _ := s.Fields("b", 1)
	want := plain(c) + plain(f)
	spoil(&l)
	if plain(c)+plain(f) != want {
		t.Error("what was told changes with what was handed in")
	}
}

// Memory, P6.8: likewise of a record.
func TestNewAnswersCopies(t *testing.T) {
	s, l := shared(t)
	before := told(s, "a", "b")
	first, _ := s.New("b", 1)
	second, e := s.New("b", 1)
	want, _ := value.Copy(second)
	if e != api.OK {
		t.Fatal(e)
	}
	if at, ok := sample.Apart(first, second); !ok {
		t.Error(at, "shares memory")
	}
	third, _ := s.New("b", 1)
	spoil(&l)
	var parts []any
	for _, f := range third.Fields {
		parts = append(parts, f.Value)
	}
	if !value.Same(third, want) {
		t.Error("a record changes with others, or with what was handed in")
	}
	if at, ok := sample.Apart(parts...); !ok {
		t.Error(at, "shares memory with another field")
	}
	if told(s, "a", "b") != before {
		t.Error("the Schema changes with the records that it told")
	}
}

// Memory: no two lists that were read share memory, also where their texts are alike.
func TestReadApart(t *testing.T) {
	const one = "{a?: [is [#0102, {a: [nil]}, r/1{b: #03}] | int], b: {}, ...}"
	x, _, e := schema.ParseType(one + "|" + one + "|(" + one + "|" + one + ")")
	y, _, _ := schema.ParseType(one + "|" + one)
	if e != api.OK {
		t.Fatal(e)
	}
	apart(t, "types", &x, &y)
	s := "class a 1 { f: " + one + " = [#01, {b: []}] g: " + one + " = [#01, {b: []}] }"
	l, at, e := schema.Parse(s + s)
	m, _, _ := schema.Parse(s)
	if e != api.OK {
		t.Fatal(at, e)
	}
	apart(t, "classes", &l, &m)
}
