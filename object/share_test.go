package object_test

import (
	"slices"
	"testing"

	"tenon/api"
	"tenon/object"
	"tenon/sample"
	"tenon/value"
)

// roomy is fields with spare room, and with one list, dict, record and run of bytes at several places.
func roomy() api.Dict {
	v := sample.Twofold()
	return append(make(api.Dict, 0, 4), sample.Field("a", v), sample.Field("b", v), sample.Field("room", "x"), sample.Field("room", "y"))[:2]
}

// kept tells whether fields are still as roomy made them, spare room too.
func kept(d api.Dict) bool {
	room := d[:4]
	return value.Same(d, roomy()) && sample.RoomKept(d[0].Value) && room[2] == sample.Field("room", "x") && room[3] == sample.Field("room", "y")
}

// P10.1, memory: a Thing keeps nothing of what it was made of, and tells nothing of its own.
func TestThingApart(t *testing.T) {
	fields := roomy()
	x := thing(t, 7, fields...)
	y, e := object.New(7, fields)
	if !kept(fields) || e != api.OK {
		t.Error("the fields have changed", e)
	}
	sample.Spoil(fields)
	for _, z := range []*object.Thing{x, y} {
		a, _ := z.Get("a")
		again, _ := z.Get("a")
		b, _ := z.Get("b")
		asked, _, _ := object.Ask(z, "a")
		if !value.Same(a, sample.Twofold()) || !value.Same(b, sample.Twofold()) {
			t.Fatal(sample.Told(a), sample.Told(b))
		}
		if at, ok := sample.Apart(a, again, b, asked); !ok {
			t.Error(at, "shares memory")
		}
		a, _ = z.Get("a")
		if at, ok := sample.Apart(a.(api.List)...); !ok {
			t.Error(at, "shares memory with another part")
		}
		mustAsk(t, z, "a", sample.Twofold(), true, api.OK)
		mustAsk(t, z, "b", sample.Twofold(), true, api.OK)
	}
}

// P10.10, P10.11, memory: what Ask and Record answer is nobody else's, neither the object's nor of another answer.
func TestAnswersApart(t *testing.T) {
	s := ordinary()
	for _, o := range able(s, api.IsVersioned, true) {
		s.Fields = roomy()
		a, _, _ := object.Ask(o, "a")
		again, _, _ := object.Ask(o, "a")
		r, _ := object.Record(o, []string{"b", "a"})
		r2, e := object.Record(o, []string{"b", "a"})
		if e != api.OK || !value.Same(r, sample.Record("p", 3, roomy()...)) || !value.Same(a, sample.Twofold()) || !kept(s.Fields) {
			t.Fatal(sample.Told(r), sample.Told(a), e)
		}
		if at, ok := sample.Apart(a, again, r, r2, s.Fields); !ok {
			t.Error(at, "shares memory")
		}
		s.Fields = roomy()
		r, _ = object.Record(o, []string{"b", "a"})
		if at, ok := sample.Apart(r.Fields[0].Value, r.Fields[1].Value); !ok {
			t.Error(at, "shares memory with another field")
		}
		r, _ = object.Record(o, []string{"b", "a"})
		if at, ok := sample.Apart(r.Fields[0].Value.(api.List)...); !ok {
			t.Error(at, "shares memory with another part")
		}
		a, _, _ = object.Ask(o, "a")
		if at, ok := sample.Apart(a.(api.List)...); !ok {
			t.Error(at, "shares memory with another part")
		}
		a, _, _ = object.Ask(o, "a")
		r, _ = object.Record(o, []string{"b", "a"})
		if !kept(s.Fields) {
			t.Error("the object has changed")
		}
		sample.Spoil(s.Fields)
		if !value.Same(r, sample.Record("p", 3, roomy()...)) || !value.Same(a, sample.Twofold()) {
			t.Error("an answer hangs on the object:", sample.Told(r), sample.Told(a))
		}
	}
}

// P10.7, memory: keys are copies, each of its own.
func TestKeysApart(t *testing.T) {
	s := ordinary()
	for _, o := range able(s, api.IsIndexed, true) {
		v := sample.Twofold()
		s.Keys = append(make([]any, 0, 4), v, v, "room", "room")[:2]
		one, _, _ := object.KeysOf(o)
		other, _, e := object.KeysOf(o)
		if e != api.OK || !slices.EqualFunc(one, s.Keys, value.Same) || !sample.RoomKept(v) || s.Keys[:4][2] != "room" || s.Keys[:4][3] != "room" {
			t.Fatal(sample.Told(api.List(one)), e)
		}
		if at, ok := sample.Apart(one[0], one[1], other[0], other[1], v); !ok {
			t.Error(at, "shares memory")
		}
		s.Keys[0], s.Keys[1] = sample.Twofold(), "x"
		one, _, _ = object.KeysOf(o)
		if at, ok := sample.Apart(one[0].(api.List)...); !ok {
			t.Error(at, "shares memory with another part")
		}
		one, _, _ = object.KeysOf(o)
		other, _, _ = object.KeysOf(o)
		if at, ok := sample.Apart(api.List(one), api.List(other), api.List(s.Keys)); !ok {
			t.Error(at, "shares memory")
		}
	}
}

// Memory: names stay as they were handed in, spare room too; what the object does with what it is handed changes nothing.
func TestNamesStay(t *testing.T) {
	s := ordinary()
	for _, o := range able(s, api.IsVersioned, true) {
		room := []string{"d", "c", "a", "b", "x", "y"}
		s.Meanwhile = func(string) {
			for i := range 4 {
				room[i] = "spoilt"
			}
		}
		mustRecord(t, o, room[:4], "p/3{a: 1, b: [nil], d: nil}")
		s.Meanwhile = nil
		copy(room, []string{"d", "c", "a", "b"})
		mustRecord(t, o, room[:4], "p/3{a: 1, b: [nil], d: nil}")
		mustNoRecord(t, o, append(room[:4:4], "B"), api.ErrName)
		if !slices.Equal(room, []string{"d", "c", "a", "b", "x", "y"}) {
			t.Error(room)
		}
	}
}

// An object may write into what it answered, in a later call: what was answered ahead of it stands.
func TestObjectGoesOnWriting(t *testing.T) {
	s := ordinary()
	l := api.List{"x"}
	s.Fields = api.Dict{sample.Field("a", l), sample.Field("b", l), sample.Field("c", l)}
	n := int64(0)
	s.Meanwhile = func(method string) {
		if method == "Get" {
			n++
			l[0] = n
		}
	}
	mustRecord(t, sample.Able(api.IsVersioned, s), []string{"c", "b", "a"}, "p/3{a: [1], b: [2], c: [3]}")
}
