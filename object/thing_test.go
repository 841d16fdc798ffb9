package object_test

import (
	"math"
	"testing"

	"tenon/api"
	"tenon/object"
	"tenon/sample"
	"tenon/value"
)

// P10.1: a Thing has its identity and each of its values, and no others.
func TestThing(t *testing.T) {
	for _, id := range []api.Ref{1, 7, 1 << 63, math.MaxUint64} {
		if x := thing(t, id); x.ID() != id {
			t.Error(id, x.ID())
		}
	}
	for _, fields := range []api.Dict{nil, {}, {sample.Field("a", nil)}, {sample.Field("a", int64(1)), sample.Field("a0", "x"), sample.Field("a_", 1.5), sample.Field("b", api.List{api.Ref(3)}), sample.Field("z", sample.MinusZero())}, sample.Fields(api.MaxItems)} {
		x := thing(t, 3, fields...)
		for _, f := range fields {
			if v, ok := x.Get(f.Name); !ok || !value.Same(v, f.Value) {
				t.Errorf("%s: %s, %v", f.Name, sample.Told(v), ok)
			}
		}
		for _, name := range append(sample.BadNames(), "aa", "a00", "c", "y", "zz", "f", "f10000a") {
			if v, ok := x.Get(name); ok || v != nil {
				t.Errorf("%q: %s, %v", name, sample.Told(v), ok)
			}
		}
	}
	if v, ok := thing(t, 1, sample.Field("a", nil)).Get("a"); v != nil || !ok {
		t.Error("a nil is a value:", v, ok)
	}
}

// P10.1: every value that can be can stand in a Thing, one level deeper than by itself.
func TestThingOfValues(t *testing.T) {
	for _, v := range sample.Rich() {
		fields := api.Dict{sample.Field("a", v)}
		_, want := value.Check(fields)
		x, e := object.New(2, fields)
		if e != want || (x == nil) != (e != api.OK) {
			t.Errorf("%s: %d, want %d", sample.Told(v), e, want)
			continue
		}
		if e != api.OK {
			continue
		}
		if w, ok := x.Get("a"); !ok || !value.Same(w, v) {
			t.Errorf("%s: %s, %v", sample.Told(v), sample.Told(w), ok)
		}
		mustAsk(t, x, "a", v, true, api.OK)
	}
}

// P10.1: an identity of 0 is ErrArg, ahead of fields that can't be; those are told as value.Check tells them.
func TestNewWrong(t *testing.T) {
	wrongs := []api.Dict{
		{sample.Field("b", nil), sample.Field("a", nil)}, {sample.Field("a", nil), sample.Field("a", nil)}, {sample.Field("A", nil)}, {sample.Field("", nil)},
		sample.Fields(api.MaxItems + 1), sample.DictRing().(api.Dict), {sample.Field("a", sample.Within(api.MaxDepth, nil))}, {sample.Field("a", sample.Numbered(api.MaxNodes-1, nil))},
	}
	for _, w := range sample.Wrongs() {
		wrongs = append(wrongs, api.Dict{sample.Field("a", w.V)})
	}
	for i, fields := range wrongs {
		_, want := value.Check(fields)
		if x, e := object.New(1, fields); x != nil || e != want || want == api.OK {
			t.Errorf("%d: %v, %d, want %d", i, x, e, want)
		}
		if x, e := object.New(0, fields); x != nil || e != api.ErrArg {
			t.Errorf("%d: %v, %d", i, x, e)
		}
	}
	for _, fields := range []api.Dict{nil, {}, {sample.Field("a", true)}} {
		if x, e := object.New(0, fields); x != nil || e != api.ErrArg {
			t.Error(x, e)
		}
	}
}

// P10.1, example 2: a nil Thing has no identity and nothing under any name.
func TestNilThing(t *testing.T) {
	var x *object.Thing
	if x.ID() != 0 {
		t.Error(x.ID())
	}
	for _, name := range append(sample.GoodNames(), sample.BadNames()...) {
		if v, ok := x.Get(name); v != nil || ok {
			t.Error(name, v, ok)
		}
	}
}

// Example 1: a Thing 7 with a: 1.
func TestThingExample(t *testing.T) {
	x := thing(t, 7, sample.Field("a", int64(1)))
	if n, e := object.Abilities(x); n != 0 || e != api.OK {
		t.Error(n, e)
	}
	if o, ok := object.As[api.Owned](x); ok || o != nil {
		t.Error(o, ok)
	}
	mustAsk(t, x, "a", int64(1), true, api.OK)
	mustAsk(t, x, "b", nil, false, api.OK)
	mustGive(t, x, "ann", api.ErrLack)
	mustNoRecord(t, x, []string{"a"}, api.ErrLack)
	mustVersion(t, x, "", 0, false, api.OK)
	mustKeys(t, x, nil, false, api.OK)
	mustOwner(t, x, "", false, api.OK)
	mustLoad(t, x, api.OK)
}

// From arguments alone: two Things of one identity know nothing of one another, and are two.
func TestTwoThings(t *testing.T) {
	x, y := thing(t, 7, sample.Field("a", "x")), thing(t, 7, sample.Field("a", "y"))
	mustAsk(t, x, "a", "x", true, api.OK)
	mustAsk(t, y, "a", "y", true, api.OK)
	for _, p := range []struct {
		a, b api.Object
		want bool
	}{{x, y, false}, {y, x, false}, {x, x, true}, {y, y, true}, {thing(t, 7), thing(t, 7), false}} {
		if one, e := object.One(p.a, p.b); one != p.want || e != api.OK {
			t.Error(one, e)
		}
	}
}
