package value_test

import (
	"cmp"
	"math"
	"math/rand"
	"slices"
	"testing"

	"tenon/api"
	"tenon/sample"
	"tenon/value"
)

// P1.3 and P1.7: every two of the values that rise, both ways round; so each kind's own order, and the kinds' order.
func TestOrderRises(t *testing.T) {
	l := sample.Rising()
	for i, a := range l {
		for j, b := range l {
			want := cmp.Compare(i, j)
			if n, e := value.Order(a, b); n != want || e != api.OK {
				t.Errorf("%T %v, %T %v: %d, %d, want %d", a, a, b, b, n, e, want)
			}
			if value.Same(a, b) != (want == 0) {
				t.Errorf("Same of %T %v, %T %v", a, a, b, b)
			}
		}
	}
}

// P1.3: what is the same, though it is not one piece of memory, or nil and empty.
func TestSame(t *testing.T) {
	shared := api.List{"x"}
	for i, x := range [][2]any{
		{math.NaN(), math.NaN()}, {sample.Bits(0xfff8000000000001), sample.Bits(0xfff8000000000001)}, {"a" + string([]byte{'b'}), "ab"}, {[]byte{1}, []byte{1}},
		{api.List(nil), api.List{}}, {api.Dict(nil), api.Dict{}}, {[]byte(nil), []byte{}}, {sample.Record("a", 1), &api.Record{Class: "a", Version: 1, Fields: api.Dict{}}}, {api.List{[]byte(nil)}, api.List{[]byte{}}},
		{api.List{shared, shared}, api.List{api.List{"x"}, api.List{"x"}}}, {sample.Record("a", 1, sample.Field("a", api.List{1.0})), sample.Record("a", 1, sample.Field("a", api.List{1.0}))},
	} {
		n, e := value.Order(x[0], x[1])
		if !value.Same(x[0], x[1]) || n != 0 || e != api.OK {
			t.Error(i, n, e)
		}
	}
	for i, x := range [][2]any{
		{0.0, sample.MinusZero()}, {math.NaN(), sample.Bits(math.Float64bits(math.NaN()) + 1)}, {math.NaN(), sample.Bits(math.Float64bits(math.NaN()) | 1<<63)}, {int64(1), 1.0}, {int64(1), api.Ref(1)}, {"a", []byte("a")}, {api.List{}, api.Dict{}}, {api.Dict{}, sample.Record("a", 1)},
		{nil, api.List(nil)}, {nil, api.Dict(nil)}, {nil, []byte(nil)}, {nil, false}, {nil, int64(0)}, {nil, ""}, {api.List{nil}, api.List{}}, {sample.Record("a", 1), sample.Record("a", 2)}, {sample.Record("a", 1), sample.Record("b", 1)},
		{api.Dict{sample.Field("a", nil)}, api.Dict{sample.Field("b", nil)}}, {api.Dict{sample.Field("a", nil)}, api.Dict{sample.Field("a", false)}}, {api.Dict{sample.Field("a", nil)}, api.Dict{}},
	} {
		if value.Same(x[0], x[1]) || value.Same(x[1], x[0]) {
			t.Error(i)
		}
	}
}

// P1.3 and P1.5: what can't be is the same as nothing, itself included; Order tells a's error first.
func TestSameAndOrderWrong(t *testing.T) {
	for _, x := range sample.Wrongs() {
		for _, other := range []any{nil, int64(1), api.List{}, x.V} {
			if value.Same(x.V, other) || value.Same(other, x.V) {
				t.Errorf("%s: the same as %T", x.Name, other)
			}
			if n, e := value.Order(x.V, other); n != 0 || e != x.Why {
				t.Errorf("%s, then %T: %d, %d", x.Name, other, n, e)
			}
			if n, e := value.Order(other, x.V); n != 0 || e != x.Why {
				t.Errorf("%T, then %s: %d, %d", other, x.Name, n, e)
			}
		}
	}
	for _, x := range []struct {
		a, b any
		want api.Errno
	}{{7, sample.Nobody(), api.ErrKind}, {sample.Nobody(), 7, api.ErrNil}, {sample.Record("A", 1), sample.Record("a", 0), api.ErrName}, {sample.Record("a", 0), sample.Record("A", 1), api.ErrArg}, {sample.RecordRing(), func() {}, api.ErrLong}} {
		if n, e := value.Order(x.a, x.b); n != 0 || e != x.want {
			t.Errorf("%T, %T: %d, %d", x.a, x.b, n, e)
		}
	}
}

// P1.3: the chapter's examples.
func TestOrderExamples(t *testing.T) {
	for _, x := range []struct {
		a, b any
		want int
	}{{sample.MinusZero(), 0.0, -1}, {true, int64(0), -1}, {api.List{}, api.List{nil}, -1}} {
		if n, e := value.Order(x.a, x.b); n != x.want || e != api.OK {
			t.Error(x, n, e)
		}
	}
	if !value.Same(math.NaN(), math.NaN()) || value.Same(0.0, sample.MinusZero()) || value.Same(func() {}, nil) {
		t.Error("Same")
	}
}

// P1.7: of values made anyhow: each two one way round, each three in a row, and 0 just where they are the same.
func TestOrderIsTotal(t *testing.T) {
	r := rand.New(rand.NewSource(7))
	var l []any
	for range 300 {
		l = append(l, sample.Anyhow(r.Intn, 3))
	}
	order := func(a, b any) int {
		n, e := value.Order(a, b)
		if e != api.OK {
			t.Fatal(e)
		}
		return n
	}
	slices.SortStableFunc(l, order)
	ties := 0
	for i, a := range l {
		for j, b := range l[i:] {
			n := order(a, b)
			if n > 0 || n != -order(b, a) || (n == 0) != value.Same(a, b) || (n == 0) != alike(a, b) {
				t.Fatalf("%v, %v: %d", a, b, n)
			}
			if n == 0 && j > 0 {
				ties++
			}
		}
	}
	if ties == 0 {
		t.Error("no ties among them")
	}
}

// alike tells by another way than Order's whether two values are the same.
func alike(a, b any) bool {
	p, e := value.Plain(a)
	q, f := value.Plain(b)
	return e == api.OK && f == api.OK && sameTerm(p, q)
}
