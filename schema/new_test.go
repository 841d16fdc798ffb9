package schema_test

import (
	"fmt"
	"testing"

	"tenon/api"
	"tenon/sample"
	"tenon/value"
)

// P6.6: a record of all fields with their defaults, those of the parents too; whether they are of their types plays no part.
func TestNew(t *testing.T) {
	s := defined(t, read(t, `
		class a 1 { m: int = 1 }
		class a 2 { m: int = "two" z: [int] = [1, -0x0p+00] }
		class b 1 : a 1 abstract { c: any = {x: nil} }
		class c 1 : b 1 { d: none = d/7{} was e }
		class d 1 : a 2 { a: any = #00ff }
		class e 1 { }`)...)
	for _, want := range []*api.Record{
		sample.Record("a", 1, sample.Field("m", int64(1))),
		sample.Record("a", 2, sample.Field("m", "two"), sample.Field("z", api.List{int64(1), sample.MinusZero()})),
		sample.Record("c", 1, sample.Field("c", api.Dict{sample.Field("x", nil)}), sample.Field("d", sample.Record("d", 7)), sample.Field("m", int64(1))),
		sample.Record("d", 1, sample.Field("a", []byte{0, 255}), sample.Field("m", "two"), sample.Field("z", api.List{int64(1), sample.MinusZero()})),
		sample.Record("e", 1),
	} {
		if r, e := s.New(want.Class, want.Version); e != api.OK || !value.Same(r, want) {
			t.Error(r, e, want)
		}
	}
	if r, e := s.New("b", 1); r != nil || e != api.ErrAbstract {
		t.Error(r, e)
	}
}

// P6.6: each value can be a default.
func TestNewOfEachValue(t *testing.T) {
	for i, v := range sample.Rising() {
		s := defined(t, class("a", 1, with(field("x", sample.AnyValue()), v)))
		if r, e := s.New("a", 1); e != api.OK || !value.Same(r, sample.Record("a", 1, sample.Field("x", v))) {
			t.Error(i, r, e)
		}
	}
}

// P6.6: the first error: not there, abstract, a field without a default, the record too great.
func TestNewErrors(t *testing.T) {
	deep := with(field("deep", sample.AnyValue()), sample.Within(api.MaxDepth, nil))
	bare := field("bare", sample.AnyValue())
	s := defined(t, class("deep", 1, deep), class("bare", 1, bare), abstract(class("none", 1, bare, deep)), class("both", 1, bare, deep), child("heir", 1, "bare", 1, some("a"), some("z")), child("heir", 2, "deep", 1, some("a"), some("z")), child("heir", 3, "none", 1), abstract(class("none", 2)), child("heir", 4, "none", 2))
	for _, x := range []struct {
		name    string
		version int
		why     api.Errno
	}{
		{"deep", 1, api.ErrLong}, {"bare", 1, api.ErrNeeds}, {"none", 1, api.ErrAbstract}, {"none", 2, api.ErrAbstract}, {"both", 1, api.ErrNeeds}, {"heir", 1, api.ErrNeeds}, {"heir", 2, api.ErrLong}, {"heir", 3, api.ErrNeeds}, {"none", 3, api.ErrClass}, {"deep", 0, api.ErrClass}, {"other", 1, api.ErrClass},
	} {
		if r, e := s.New(x.name, x.version); r != nil || e != x.why {
			t.Errorf("%s %d: %v, %d, want %d", x.name, x.version, r, e, x.why)
		}
	}
	if r, e := s.New("heir", 4); e != api.OK || !value.Same(r, sample.Record("heir", 4)) {
		t.Error(r, e)
	}
}

// P6.6: the greatest records that can be, and those that are one part too great or one level too deep.
func TestNewLimits(t *testing.T) {
	parts := func(n int) any { return sample.Numbered(n-1, nil) } // a value of n parts
	half := api.MaxNodes / 2
	for i, x := range []struct {
		a, b any
		why  api.Errno
	}{
		{parts(half), parts(half - 1), api.OK}, {parts(half), parts(half), api.ErrLong}, {parts(half - 1), parts(half), api.OK},
		{sample.Within(api.MaxDepth-1, nil), nil, api.OK}, {nil, sample.Within(api.MaxDepth-1, nil), api.OK}, {nil, sample.Within(api.MaxDepth, nil), api.ErrLong},
	} {
		s := defined(t, class("a", 1, with(field("a", sample.AnyValue()), x.a)), child("b", 1, "a", 1, with(field("b", sample.AnyValue()), x.b)))
		r, e := s.New("b", 1)
		if e != x.why || (r != nil) != (e == api.OK) {
			t.Error(i, e)
		}
		if e == api.OK && !value.Same(r, sample.Record("b", 1, sample.Field("a", x.a), sample.Field("b", x.b))) {
			t.Error(i, "another record")
		}
	}
	s := defined(t, class("a", 1, someFields(0, api.MaxItems)...))
	r, e := s.New("a", 1)
	if e != api.OK || len(r.Fields) != api.MaxItems || r.Fields[4095].Name != fmt.Sprintf("f%06d", 4095) {
		t.Error(e)
	}
}
