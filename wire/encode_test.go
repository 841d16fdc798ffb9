package wire_test

import (
	"bytes"
	"testing"

	"tenon/api"
	"tenon/sample"
	"tenon/value"
	"tenon/wire"
)

// encoded is what Encode answers of a value that can be.
func encoded(t *testing.T, v any) []byte {
	t.Helper()
	b, e := wire.Encode(v)
	if e != api.OK {
		t.Fatalf("%T: %d", v, e)
	}
	return b
}

// P3.1: the bytes of each kind, by itself and within others.
func TestEncode(t *testing.T) {
	for _, x := range plain() {
		if b := encoded(t, x.v); !bytes.Equal(b, x.b) {
			t.Errorf("%T: %s, want %s", x.v, short(b), short(x.b))
		}
		if _, depth, _ := value.Size(x.v); depth == api.MaxDepth {
			continue
		}
		if b, want := encoded(t, api.List{x.v, nil}), joined(octets("08 02"), x.b, octets("01")); !bytes.Equal(b, want) {
			t.Errorf("%T in a list: %s, want %s", x.v, short(b), short(want))
		}
		if b, want := encoded(t, sample.Record("c", 5, sample.Field("a", x.v), sample.Field("b", x.v))), joined(octets("0a 01 63 05 02 01 61"), x.b, octets("01 62"), x.b); !bytes.Equal(b, want) {
			t.Errorf("%T in a record: %s, want %s", x.v, short(b), short(want))
		}
	}
}

// P3.1: whatever the value, the bytes are those that the library's own numbers make.
func TestEncodeAnything(t *testing.T) {
	for _, v := range values() {
		if b, want := encoded(t, v), coded(v); !bytes.Equal(b, want) {
			t.Fatalf("%T: %s, want %s", v, short(b), short(want))
		}
	}
}

// P3.1: none and Check's error of what can't be: each limit by one, a strange type or a nil at whatever place, what holds itself.
func TestEncodeWrong(t *testing.T) {
	for _, x := range sample.Wrongs() {
		if b, e := wire.Encode(x.V); len(b) != 0 || e != x.Why {
			t.Errorf("%s: %s, %d, want %d", x.Name, short(b), e, x.Why)
		}
	}
	for _, alien := range []any{7, uint64(7), float32(7), []any{}, []string{}, map[string]any{}, func() {}, make(chan int), struct{}{}, api.Record{Class: "a", Version: 1}, api.Field{}, api.Term{}, (*int)(nil), (*api.List)(nil), [1]any{func() {}}} {
		if b, e := wire.Encode(alien); len(b) != 0 || e != api.ErrKind {
			t.Errorf("%T: %s, %d", alien, short(b), e)
		}
		if b, e := wire.Encode(api.Dict{sample.Field("a", api.List{nil, alien})}); len(b) != 0 || e != api.ErrKind {
			t.Errorf("%T within: %s, %d", alien, short(b), e)
		}
	}
	for _, name := range sample.BadNames() {
		for _, v := range []any{sample.Record(name, 1), sample.Record("a", 1, sample.Field(name, nil)), api.Dict{sample.Field(name, nil)}} {
			if b, e := wire.Encode(v); len(b) != 0 || e != api.ErrName {
				t.Errorf("%q: %s, %d", name, short(b), e)
			}
		}
	}
}

// Memory: a value's bytes are new ones, and it is not changed.
func TestEncodeSharesNothing(t *testing.T) {
	text := append(make([]byte, 0, 8), 1, 2)
	v := api.List{text, text}
	a, b := encoded(t, v), encoded(t, v)
	a = a[:cap(a)]
	for i := range a {
		a[i] = 0xee
	}
	if want := octets("08 02 06 02 01 02 06 02 01 02"); !bytes.Equal(b, want) || !bytes.Equal(encoded(t, v), want) || text[:3][2] != 0 {
		t.Error(short(b), text[:3])
	}
}
