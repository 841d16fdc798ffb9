package value_test

import (
	"testing"

	"tenon/api"
	"tenon/sample"
	"tenon/value"
)

// P1.4: a copy is the same.
func TestCopyIsTheSame(t *testing.T) {
	for i, v := range sample.Rich() {
		c, e := value.Copy(v)
		if e != api.OK || !value.Same(c, v) || value.Kind(c) != value.Kind(v) {
			t.Errorf("%d, %T: %d", i, v, e)
		}
	}
}

// P1.4: a copy shares nothing with its value, spare room included, nor one of its parts with another one.
func TestCopySharesNothing(t *testing.T) {
	b := []byte{1, 2, 3}
	l := append(make(api.List, 0, 4), b[:2], "x")
	d := append(make(api.Dict, 0, 4), sample.Field("k", b[:2]), sample.Field("l", l))
	r := sample.Record("c", 1, d...)
	v := api.List{b[:2], l, d, r, r, l}
	want := api.List{[]byte{1, 2}, wantList(), wantDict(), sample.Record("c", 1, wantDict()...), sample.Record("c", 1, wantDict()...), wantList()}
	copied, e := value.Copy(v)
	if e != api.OK || !value.Same(copied, want) {
		t.Fatal(e)
	}
	c := copied.(api.List)
	spoil(c[0].([]byte))
	c[1].(api.List)[0] = "changed"
	c[2].(api.Dict)[0] = sample.Field("changed", nil)
	spoil(c[3].(*api.Record).Fields[0].Value.([]byte))
	c[3].(*api.Record).Fields[1].Value.(api.List)[1] = "changed"
	c[3].(*api.Record).Class, c[3].(*api.Record).Version = "changed", 9
	if !value.Same(v, want) || b[2] != 3 {
		t.Error("the value was changed by its copy")
	}
	if !value.Same(c[4:], want[4:]) {
		t.Error("two parts of the copy are one")
	}
	c[5] = nil
	spoil(b)
	l[0], d[0].Value, r.Version = nil, nil, 7
	if !value.Same(c[4], want[4]) {
		t.Error("the copy was changed by its value")
	}
}

func wantList() api.List { return api.List{[]byte{1, 2}, "x"} }

func wantDict() api.Dict {
	return api.Dict{sample.Field("k", []byte{1, 2}), sample.Field("l", wantList())}
}

// P1.4: how many parts, how deep.
func TestSize(t *testing.T) {
	for i, x := range []struct {
		v        any
		n, depth int
	}{
		{nil, 1, 1}, {"abc", 1, 1}, {[]byte{1, 2}, 1, 1}, {api.List{}, 1, 1}, {api.List(nil), 1, 1}, {api.Dict{}, 1, 1}, {sample.Record("a", 1), 1, 1}, {api.List{nil}, 2, 2}, {sample.Record("a", 1, sample.Field("a", nil), sample.Field("b", api.List{})), 3, 2},
		{api.List{[]byte{1}, api.Dict{sample.Field("a", "x")}}, 4, 3}, {api.List{api.List{api.List{}}, nil, api.List{nil}}, 6, 3}, {api.List{nil, api.List{api.List{nil}}, nil}, 6, 4},
		{sample.Items(api.MaxItems), 4097, 2}, {sample.Fields(api.MaxItems), 4097, 2}, {sample.Within(api.MaxDepth, nil), 64, 64}, {sample.WithinFields(api.MaxDepth, nil), 64, 64}, {sample.Numbered(api.MaxNodes-1, nil), 16384, 3}, {sample.Doubled(3), 15, 4}, {sample.Doubled(12), 8191, 13},
	} {
		if n, depth, e := value.Size(x.v); n != x.n || depth != x.depth || e != api.OK {
			t.Errorf("%d: %d, %d, %d, want %d, %d", i, n, depth, e, x.n, x.depth)
		}
	}
}

// P1.4: nothing but Check's error, where a value can't be.
func TestCopyAndSizeWrong(t *testing.T) {
	for _, x := range sample.Wrongs() {
		if c, e := value.Copy(x.V); c != nil || e != x.Why {
			t.Errorf("%s: copy %v, %d, want %d", x.Name, c, e, x.Why)
		}
		if n, depth, e := value.Size(x.V); n != 0 || depth != 0 || e != x.Why {
			t.Errorf("%s: size %d, %d, %d, want %d", x.Name, n, depth, e, x.Why)
		}
	}
}
