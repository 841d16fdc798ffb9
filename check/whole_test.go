package check_test

import (
	"math/rand"
	"testing"

	"tenon/api"
	"tenon/check"
	"tenon/sample"
	"tenon/value"
)

// is is whether a value is of a type, both of which can be.
func is(t *testing.T, v any, x api.Type) bool {
	t.Helper()
	ok, _, e := check.Is(v, x)
	if e != api.OK {
		t.Fatalf("Is(%s, %s): %d", told(v), show(x), e)
	}
	return ok
}

// sub is whether a type is plainly of another one, both of which can be.
func sub(t *testing.T, a, b api.Type) bool {
	t.Helper()
	ok, e := check.Sub(a, b)
	if e != api.OK {
		t.Fatalf("Sub(%s, %s): %d", show(a), show(b), e)
	}
	return ok
}

// some is values and types of which the first are often of the second.
func some(r *rand.Rand, n int) ([]any, []api.Type) {
	all, types := values(), pool()
	for range n {
		v := great(r)
		all, types = append(all, v), append(types, near(r, v, 3), near(r, v, 3), sample.AnyhowType(r.Intn, 3))
	}
	return all, types
}

// P7.6: if Sub(a, b), every value that is of a is of b.
func TestSound(t *testing.T) {
	r := rand.New(rand.NewSource(6))
	for range 6 {
		all, types := some(r, 40)
		held := 0
		for _, a := range types {
			var of []any
			for _, v := range all {
				if is(t, v, a) {
					of = append(of, v)
				}
			}
			for _, b := range types {
				if !sub(t, a, b) {
					continue
				}
				for _, v := range of {
					held++
					if !is(t, v, b) {
						t.Fatalf("%s is of %s, which is plainly of %s", told(v), show(a), show(b))
					}
				}
			}
		}
		if held < 1000 {
			t.Error("seen but", held)
		}
	}
}

// P7.7: Sub(a, a) is true.
func TestSubItself(t *testing.T) {
	_, types := some(rand.New(rand.NewSource(7)), 2000)
	for _, x := range append(types, sample.Types()...) {
		if !sub(t, x, x) || !sub(t, x, sample.Cluttered(x)) {
			t.Errorf("%s is not of itself", show(x))
		}
	}
}

// P7.7: if Sub(a, b) and Sub(b, c), every value of a is of c.
func TestSubOnAndOn(t *testing.T) {
	all, types := some(rand.New(rand.NewSource(8)), 20)
	above := make([][]int, len(types)) // of which others each is plainly
	for i, a := range types {
		for j, b := range types {
			if sub(t, a, b) {
				above[i] = append(above[i], j)
			}
		}
	}
	for i, a := range types {
		var far []int
		for _, j := range above[i] {
			far = append(far, above[j]...)
		}
		for _, v := range all {
			if !is(t, v, a) {
				continue
			}
			for _, k := range far {
				if !is(t, v, types[k]) {
					t.Fatalf("%s is of %s, and not of %s", told(v), show(a), show(types[k]))
				}
			}
		}
	}
}

// P7.7: each value is of TypeOf it, whatever stands in that.
func TestTypeOfHolds(t *testing.T) {
	r := rand.New(rand.NewSource(9))
	all, _ := some(r, 2000)
	all = append(all, sample.Rich()...)
	for range 500 {
		all = append(all, sample.Anything(r.Uint64, 4))
	}
	for _, v := range append(all, sample.Within(api.MaxDepth, api.List{}), sample.WithinFields(api.MaxDepth, api.List{}), api.List{nil, sample.Within(api.MaxDepth-1, api.List{})}) {
		x, e := check.TypeOf(v)
		if e != api.OK || !check.Valid(x) || !is(t, v, x) {
			t.Errorf("%s is not of %s, %d", told(v), show(x), e)
		}
	}
}

// P7.7: what is of a or of b is of Either(a, b), and nothing else is; both are plainly of it.
func TestEitherHolds(t *testing.T) {
	r := rand.New(rand.NewSource(10))
	all, types := some(r, 50)
	for range 2000 {
		a, b := types[r.Intn(len(types))], types[r.Intn(len(types))]
		x, e := check.Either(a, b)
		if e != api.OK || !check.Valid(x) {
			t.Fatalf("Either(%s, %s): %s, %d", show(a), show(b), show(x), e)
		}
		if !sub(t, a, x) || !sub(t, b, x) {
			t.Errorf("Either(%s, %s): %s", show(a), show(b), show(x))
		}
		for _, v := range all {
			if (is(t, v, a) || is(t, v, b)) != is(t, v, x) {
				t.Fatalf("Either(%s, %s): %s, and %s", show(a), show(b), show(x), told(v))
			}
		}
	}
}

// P7.8: what Narrow tells with true is of the type; of a value that is of it already it is the same.
func TestNarrowHolds(t *testing.T) {
	r := rand.New(rand.NewSource(11))
	all, types := some(r, 200)
	narrowed := 0
	for _, v := range all {
		for _, x := range types {
			got, ok, e := check.Narrow(v, x)
			switch {
			case e != api.OK:
				t.Fatal(e)
			case !ok:
				if got != nil || is(t, v, x) {
					t.Errorf("Narrow(%s, %s): nothing", told(v), show(x))
				}
				continue
			case !is(t, got, x):
				t.Errorf("Narrow(%s, %s): %s", told(v), show(x), told(got))
			case value.Same(got, v) != is(t, v, x):
				t.Errorf("Narrow(%s, %s): %s", told(v), show(x), told(got))
			case !value.Same(got, v):
				narrowed++
			}
			if again, ok, e := check.Narrow(got, x); !ok || !value.Same(again, got) || e != api.OK {
				t.Errorf("Narrow(%s, %s) again: %s, %v, %d", told(got), show(x), told(again), ok, e)
			}
		}
	}
	if narrowed < 1000 {
		t.Error("narrowed but", narrowed)
	}
}

// The chapter's examples.
func TestExamples(t *testing.T) {
	number, pair := sample.ListOf(sample.OfKind(api.KInt)), api.List{int64(1), "a"}
	mustBe(t, pair, number, false, 2)
	mustBe(t, api.Dict{{Name: "a", Value: true}}, typ("{a: bool, b: any}"), false, 0)
	mustBe(t, api.Dict{{Name: "a", Value: true}}, typ("{a: bool, b?: any}"), true, 0)
	mustSub(t, sample.ListOf(sample.NoValue()), number, true)
	mustSub(t, sample.OfKind(api.KList), sample.ListOf(sample.AnyValue()), false)
	mustSub(t, sample.Only(int64(1)), sample.OfKind(api.KInt), true)
	mustNarrow(t, pair, number, api.List{int64(1)})
	mustBeOf(t, api.List{}, sample.ListOf(sample.NoValue()))
}
