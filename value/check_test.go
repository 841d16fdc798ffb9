package value_test

import (
	"testing"

	"tenon/api"
	"tenon/sample"
	"tenon/value"
)

// P1.1: Kind goes by the Go type and nothing else.
func TestKind(t *testing.T) {
	for _, x := range []struct {
		v    any
		want int
	}{
		{nil, 1}, {true, 2}, {false, 2}, {int64(7), 3}, {7.0, 4}, {"", 5}, {"a", 5}, {[]byte{1}, 6}, {[]byte{}, 6}, {[]byte(nil), 6}, {[]uint8{1}, 6},
		{api.Ref(0), 7}, {api.List{}, 8}, {api.List(nil), 8}, {api.Dict{}, 9}, {api.Dict(nil), 9}, {&api.Record{}, 10}, {sample.Record("a", 1), 10}, {sample.Nobody(), 11}, {7, 0},
		{sample.ListRing(), 8}, {sample.DictRing(), 9}, {sample.RecordRing(), 10}, {api.List{7}, 8}, // what lies within plays no part
	} {
		if n := value.Kind(x.v); n != x.want {
			t.Errorf("%T: kind %d, want %d", x.v, n, x.want)
		}
	}
	for _, v := range aliens() {
		if n := value.Kind(v); n != api.KAlien {
			t.Errorf("%T: kind %d, want none", v, n)
		}
	}
}

// P1.1: what can be, the limits themselves among it.
func TestCheckWhatCanBe(t *testing.T) {
	for i, v := range sample.Rich() {
		if n, e := value.Check(v); n != 0 || e != api.OK {
			t.Errorf("%d, %T: %d, %d", i, v, n, e)
		}
	}
	for _, name := range sample.GoodNames() {
		for _, v := range []any{sample.Record(name, 1), sample.Record("a", 1, sample.Field(name, nil)), api.Dict{sample.Field(name, nil)}} {
			if n, e := value.Check(v); n != 0 || e != api.OK {
				t.Errorf("%q in %T: %d, %d", name, v, n, e)
			}
		}
	}
}

// P1.1: a name that is none, of a class and of a field.
func TestCheckNames(t *testing.T) {
	for _, name := range sample.BadNames() {
		for _, v := range []any{sample.Record(name, 1), sample.Record("a", 1, sample.Field(name, nil)), api.Dict{sample.Field(name, nil)}} {
			if n, e := value.Check(api.List{nil, v}); n != 2 || e != api.ErrName {
				t.Errorf("%q in %T: %d, %d", name, v, n, e)
			}
		}
	}
	for _, x := range [][2]string{{"a", "a"}, {"b", "a"}, {"aa", "a"}, {"a_", "a0"}, {"aa", "a_"}, {"ab", "aa"}} {
		d := api.Dict{sample.Field(x[0], nil), sample.Field(x[1], nil)}
		for _, v := range []any{d, sample.Record("a", 1, d...)} {
			if n, e := value.Check(v); n != 0 || e != api.ErrName {
				t.Errorf("%q in %T: %d, %d", x, v, n, e)
			}
		}
	}
	late := append(sample.Fields(100), sample.Field("f10050", nil))
	if n, e := value.Check(late); n != 0 || e != api.ErrName {
		t.Error("a name that comes late:", n, e)
	}
}

// P1.1: the first part that is wrong, and the first of its errors.
func TestCheckWrong(t *testing.T) {
	for _, x := range sample.Wrongs() {
		if n, e := value.Check(x.V); n != x.At || e != x.Why {
			t.Errorf("%s: %d, %d, want %d, %d", x.Name, n, e, x.At, x.Why)
		}
	}
	for _, v := range aliens() {
		if n, e := value.Check(v); n != 0 || e != api.ErrKind {
			t.Errorf("%T: %d, %d", v, n, e)
		}
		if n, e := value.Check(sample.Record("a", 1, sample.Field("a", v))); n != 1 || e != api.ErrKind {
			t.Errorf("%T in a record: %d, %d", v, n, e)
		}
	}
}

// P1.1: rings in which other parts stand are numbered as any value's.
func TestCheckRings(t *testing.T) {
	r := sample.Record("r", 1)
	r.Fields = api.Dict{sample.Field("a", int64(1)), sample.Field("b", r), sample.Field("c", r)}
	if n, e := value.Check(r); n != 127 || e != api.ErrLong {
		t.Error("a field ahead of the ring:", n, e)
	}
	l := sample.Items(api.MaxItems)
	for i := range l {
		l[i] = l
	}
	if n, e := value.Check(l); n != 64 || e != api.ErrLong {
		t.Error("a list full of itself:", n, e)
	}
	l = sample.Items(api.MaxItems)
	l[api.MaxItems-1] = l
	if n, e := value.Check(l); n != api.MaxNodes || e != api.ErrLong {
		t.Error("a list with itself at its end:", n, e)
	}
}
