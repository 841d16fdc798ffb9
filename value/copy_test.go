package value_test

import (
	"testing"
	"unsafe"

	"tenon/api"
	"tenon/value"
)

// P1.4: a copy is the same.
func TestCopyIsTheSame(t *testing.T) {
	for i, v := range rich() {
		c, e := value.Copy(v)
		if e != api.OK || !value.Same(c, v) || value.Kind(c) != value.Kind(v) {
			t.Errorf("%d, %T: %d", i, v, e)
		}
	}
}

// P1.4: a copy shares nothing with its value, spare room included, nor one of its parts with another one.
func TestCopySharesNothing(t *testing.T) {
	b := []byte{1, 2, 3}
	l := append(make(api.List, 0, 4), b[:2], "x")
	d := append(make(api.Dict, 0, 4), field("k", b[:2]), field("l", l))
	r := record("c", 1, d...)
	v := api.List{b[:2], l, d, r, r, l}
	want := api.List{[]byte{1, 2}, wantList(), wantDict(), record("c", 1, wantDict()...), record("c", 1, wantDict()...), wantList()}
	copied, e := value.Copy(v)
	if e != api.OK || !value.Same(copied, want) {
		t.Fatal(e)
	}
	c := copied.(api.List)
	spoil(c[0].([]byte))
	c[1].(api.List)[0] = "changed"
	c[2].(api.Dict)[0] = field("changed", nil)
	spoil(c[3].(*api.Record).Fields[0].Value.([]byte))
	c[3].(*api.Record).Fields[1].Value.(api.List)[1] = "changed"
	c[3].(*api.Record).Class, c[3].(*api.Record).Version = "changed", 9
	if !value.Same(v, want) || b[2] != 3 {
		t.Error("the value was changed by its copy")
	}
	if !value.Same(c[4:], want[4:]) {
		t.Error("two parts of the copy are one")
	}
	c[5] = nil
	spoil(b)
	l[0], d[0].Value, r.Version = nil, nil, 7
	if !value.Same(c[4], want[4]) {
		t.Error("the copy was changed by its value")
	}
}

// P1.4: texts, classes and names lie in memory of their own, too.
func TestCopySharesNoText(t *testing.T) {
	whole := string([]byte("somewhat longer"))
	v := record(whole[:4], 1, field(whole[4:8], whole[9:]))
	copied, e := value.Copy(v)
	if e != api.OK || !value.Same(copied, v) {
		t.Fatal(e)
	}
	c := copied.(*api.Record)
	text := func(v any) string { return v.(string) }
	for _, x := range [][2]string{{v.Class, c.Class}, {v.Fields[0].Name, c.Fields[0].Name}, {text(v.Fields[0].Value), text(c.Fields[0].Value)}} {
		if unsafe.StringData(x[0]) == unsafe.StringData(x[1]) {
			t.Errorf("%q is shared", x[0])
		}
	}
}

func wantList() api.List { return api.List{[]byte{1, 2}, "x"} }

func wantDict() api.Dict {
	return api.Dict{field("k", []byte{1, 2}), field("l", wantList())}
}

// P1.4: how many parts, how deep.
func TestSize(t *testing.T) {
	for i, x := range []struct {
		v        any
		n, depth int
	}{
		{nil, 1, 1}, {"abc", 1, 1}, {[]byte{1, 2}, 1, 1}, {api.List{}, 1, 1}, {api.List(nil), 1, 1}, {api.Dict{}, 1, 1}, {record("a", 1), 1, 1}, {api.List{nil}, 2, 2}, {record("a", 1, field("a", nil), field("b", api.List{})), 3, 2},
		{api.List{[]byte{1}, api.Dict{field("a", "x")}}, 4, 3}, {api.List{api.List{api.List{}}, nil, api.List{nil}}, 6, 3}, {api.List{nil, api.List{api.List{nil}}, nil}, 6, 4},
		{items(api.MaxItems), 4097, 2}, {fields(api.MaxItems), 4097, 2}, {within(api.MaxDepth, nil), 64, 64}, {withinFields(api.MaxDepth, nil), 64, 64}, {numbered(api.MaxNodes-1, nil), 16384, 3}, {doubled(3), 15, 4}, {doubled(12), 8191, 13},
	} {
		if n, depth, e := value.Size(x.v); n != x.n || depth != x.depth || e != api.OK {
			t.Errorf("%d: %d, %d, %d, want %d, %d", i, n, depth, e, x.n, x.depth)
		}
	}
}

// P1.4: nothing but Check's error, where a value can't be.
func TestCopyAndSizeWrong(t *testing.T) {
	for _, x := range wrongValues() {
		if c, e := value.Copy(x.v); c != nil || e != x.why {
			t.Errorf("%s: copy %v, %d, want %d", x.name, c, e, x.why)
		}
		if n, depth, e := value.Size(x.v); n != 0 || depth != 0 || e != x.why {
			t.Errorf("%s: size %d, %d, %d, want %d", x.name, n, depth, e, x.why)
		}
	}
}
