package object_test

import (
	"testing"

	"tenon/api"
	"tenon/convert"
	"tenon/evolve"
	"tenon/object"
	"tenon/sample"
	"tenon/schema"
	"tenon/value"
	"tenon/wire"
)

// P4: an object that tells an old version is read as a new one: what it has under the class's names is a record of that version, and a converter brings it on.
func TestRecordIsConverted(t *testing.T) {
	l, _, e := schema.Parse(`class person 1 { age: int name: text } class person 2 { age: int city: text = "Ulm" name: text | nil }`)
	var s schema.Schema
	var r convert.Registry
	for _, c := range l {
		if e := s.Define(c); e != api.OK {
			t.Fatal(e)
		}
	}
	if e != api.OK {
		t.Fatal(e)
	}
	up, e := evolve.Auto(&s, "person", 1, 2)
	if _, f := r.Add(up); e != api.OK || f != api.OK {
		t.Fatal(e, f)
	}
	fields, _ := s.Fields("person", 1)
	var names []string
	for _, f := range fields {
		names = append(names, f.Name)
	}
	script := &sample.Script{Class: "person", Version: 1, Fields: api.Dict{sample.Field("age", int64(30)), sample.Field("name", "Ada"), sample.Field("secret", true)}}
	for _, o := range able(script, api.IsVersioned, true) {
		old, e := object.Record(o, names)
		if e != api.OK {
			t.Fatal(e)
		}
		if name, e := evolve.Conforms(&s, old); name != "" || e != api.OK {
			t.Error(name, e)
		}
		now, e := r.Convert(old, 2)
		if sample.Told(now) != `person/2{age: 30, city: "Ulm", name: "Ada"}` || e != api.OK {
			t.Error(sample.Told(now), e)
		}
	}
}

// P1, P2: what Ask answers is the same as what stood there, by its bytes, too; what can't be is told by the same error everywhere.
func TestAskedAsWritten(t *testing.T) {
	for _, v := range sample.Rich() {
		o := sample.Able(all, &sample.Script{Fields: api.Dict{sample.Field("a", v)}, Keys: []any{v}})
		w, _, e := object.Ask(o, "a")
		keys, _, f := object.KeysOf(o)
		if e != api.OK || f != api.OK {
			t.Fatal(e, f)
		}
		b, _ := wire.Encode(v)
		for _, x := range []any{w, keys[0]} {
			if c, e := wire.Encode(x); string(b) != string(c) || e != api.OK {
				t.Errorf("%s: %s", sample.Told(v), sample.Told(x))
			}
		}
	}
	for _, x := range sample.Wrongs() {
		o := sample.Able(all, &sample.Script{Fields: api.Dict{sample.Field("a", x.V)}, Keys: []any{x.V}})
		_, want := value.Copy(x.V)
		mustAsk(t, o, "a", nil, false, want)
		mustKeys(t, o, nil, true, want)
	}
}
