package digest_test

import (
	"math"
	"testing"

	"tenon/api"
	"tenon/digest"
	"tenon/sample"
	"tenon/value"
)

// What the tests of this package are made of.

// floatKeys are floats that Go finds alike, or unlike themselves.
func floatKeys() []any {
	return []any{0.0, sample.MinusZero(), math.NaN(), sample.Bits(0x7ff8000000000002), sample.Bits(0xfff8000000000001), 1.0, math.Inf(1)}
}

// mixed is values that are much alike, of every kind, no two of which are the same, in their order.
func mixed() []any {
	return []any{
		nil, false, true, int64(-1), int64(0), int64(1), sample.Bits(0xfff8000000000001), sample.MinusZero(), 0.0, 1.0, math.NaN(),
		"", "1", "a", "nil", []byte{}, []byte("1"), []byte("a"), api.Ref(0), api.Ref(1),
		api.List{}, api.List{nil}, api.List{int64(1)}, api.List{1.0}, api.List{math.NaN()}, api.List{[]byte{1}}, api.List{api.List{}},
		api.Dict{}, api.Dict{sample.Field("a", nil)}, api.Dict{sample.Field("a", []byte{1})}, sample.Record("a", 1), sample.Record("a", 1, sample.Field("a", nil)), sample.Record("a", 2),
	}
}

// copied is a copy of a value that can be.
func copied(v any) any {
	c, e := value.Copy(v)
	if e != api.OK {
		panic(e)
	}
	return c
}

// filled is a Map in which n ints keep themselves.
func filled(t *testing.T, n int) *digest.Map {
	t.Helper()
	m := new(digest.Map)
	for i := range n {
		if v, had, e := m.Put(int64(i), int64(i)); v != nil || had || e != api.OK {
			t.Fatal(i, v, had, e)
		}
	}
	return m
}

// answers sees what a call answers beside whether there was something.
func answers(t *testing.T, what string, v any, had bool, want any, wantHad bool) {
	t.Helper()
	if had != wantHad || !value.Same(v, want) {
		t.Errorf("%s: %v, %v, want %v, %v", what, v, had, want, wantHad)
	}
}

// holds sees by Each that a Map keeps just these, each key followed by what it keeps, in the keys' order.
func holds(t *testing.T, what string, m *digest.Map, want ...any) {
	t.Helper()
	if m.Len() != len(want)/2 {
		t.Errorf("%s: %d keys, want %d", what, m.Len(), len(want)/2)
	}
	var shown []any
	e := m.Each(func(key, v any) bool { shown = append(shown, key, v); return true })
	if e != api.OK || len(shown) != len(want) {
		t.Fatalf("%s: %d shown, %d, want %d", what, len(shown), e, len(want))
	}
	for i := range want {
		if !value.Same(shown[i], want[i]) {
			t.Errorf("%s: %v shown at %d, want %v", what, shown[i], i, want[i])
		}
	}
}
