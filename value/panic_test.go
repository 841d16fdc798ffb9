package value_test

import (
	"testing"

	"tenon/api"
	"tenon/sample"
	"tenon/value"
)

// strange is what an interface may hold, at best and at worst.
func strange() []any {
	all := append(aliens(), nil, sample.Nobody(), true, int64(0), 0.0, "", []byte(nil), api.Ref(0), api.List(nil), api.Dict(nil), &api.Record{}, api.List{func() {}}, sample.ListRing(), sample.DictRing(), sample.RecordRing(), sample.RingOfThree(), sample.Doubled(50))
	return all
}

// wrapped is a value by itself and within the kinds that hold values.
func wrapped(v any) []any {
	return []any{v, api.List{v, v}, api.Dict{sample.Field("a", v)}, sample.Record("a", 1, sample.Field("a", v)), sample.Within(api.MaxDepth, v)}
}

// P1.5: no call panics, of one value or of two.
func TestNeverAPanic(t *testing.T) {
	var all []any
	for _, v := range strange() {
		all = append(all, wrapped(v)...)
	}
	for _, a := range all {
		value.Kind(a)
		_, e := value.Check(a)
		p, f := value.Plain(a)
		c, g := value.Copy(a)
		n, depth, h := value.Size(a)
		if e != f || e != g || e != h {
			t.Fatalf("%T: %d, %d, %d, %d", a, e, f, g, h)
		}
		if e != api.OK && (!sameTerm(p, api.Term{}) || c != nil || n != 0 || depth != 0 || value.Same(a, a)) {
			t.Fatalf("%T: more than an error", a)
		}
	}
	for _, a := range strange() {
		for _, b := range all {
			n, e := value.Order(a, b)
			if value.Same(a, b) != (e == api.OK && n == 0) {
				t.Fatalf("%T, %T: %d, %d", a, b, n, e)
			}
		}
	}
}

// P1.5: a nil within an interface is told apart from none, by each call.
func TestNilIsToldApart(t *testing.T) {
	for i, v := range wrapped(sample.Nobody()) {
		if i > 0 && value.Kind(v) == api.KNothing {
			t.Error(i, "kind")
		}
		_, e := value.Check(v)
		_, f := value.Plain(v)
		_, g := value.Copy(v)
		_, _, h := value.Size(v)
		_, k := value.Order(v, nil)
		_, l := value.Order(nil, v)
		for _, e := range []api.Errno{e, f, g, h, k, l} {
			if e != api.ErrNil {
				t.Error(i, e)
			}
		}
		if value.Same(v, v) || value.Same(v, nil) || value.Same(nil, v) {
			t.Error(i, "same")
		}
	}
	if value.Kind(nil) != api.KNil || value.Kind(sample.Nobody()) != api.KNothing {
		t.Error("kinds")
	}
	if n, e := value.Check(nil); n != 0 || e != api.OK {
		t.Error("none can be:", n, e)
	}
	if p, e := value.Plain(nil); e != api.OK || !sameTerm(p, api.Term{Kind: api.KNil}) {
		t.Error("none is said by a term:", e)
	}
	for _, other := range []any{(*api.List)(nil), (*int)(nil), (func())(nil), (map[string]any)(nil)} {
		if _, e := value.Check(other); e != api.ErrKind {
			t.Errorf("%T: %d: a nil of another type is an alien", other, e)
		}
	}
}
