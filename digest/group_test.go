package digest_test

import (
	"math"
	"math/rand"
	"testing"

	"tenon/api"
	"tenon/digest"
	"tenon/sample"
	"tenon/value"
)

// grouped sees what Group answers of a list.
func grouped(t *testing.T, what string, l []any, want ...api.Count) {
	t.Helper()
	got, e := digest.Group(l)
	if e != api.OK || len(got) != len(want) {
		t.Fatalf("%s: %v, %d, want %v", what, got, e, want)
	}
	for i, x := range want {
		if got[i].N != x.N || !value.Same(got[i].Value, x.Value) {
			t.Errorf("%s: %v at %d, want %v", what, got[i], i, x)
		}
	}
}

// P5.4: each value once, with how often it comes, in their order.
func TestGroup(t *testing.T) {
	one := func(v any, n int) api.Count { return api.Count{Value: v, N: n} }
	grouped(t, "no list", nil)
	grouped(t, "an empty list", []any{})
	grouped(t, "the chapter's", []any{1.0, -1.0, 1.0}, one(-1.0, 1), one(1.0, 2))
	grouped(t, "nils", []any{nil, nil, nil}, one(nil, 3))
	grouped(t, "one number", []any{1.0, int64(1), 1.0, api.Ref(1), "1", int64(1), 1.0}, one(int64(1), 2), one(1.0, 3), one("1", 1), one(api.Ref(1), 1))
	grouped(t, "noughts and NaNs", []any{math.NaN(), 0.0, sample.MinusZero(), math.NaN(), sample.Bits(0xfff8000000000001), 0.0, sample.MinusZero(), 0.0}, one(sample.Bits(0xfff8000000000001), 1), one(sample.MinusZero(), 2), one(0.0, 3), one(math.NaN(), 2))
	grouped(t, "nil and empty", []any{api.List{}, []byte(nil), api.Dict(nil), api.List(nil), []byte{}, nil, api.Dict{}}, one(nil, 1), one([]byte{}, 2), one(api.List{}, 2), one(api.Dict{}, 2))
	l := api.List{[]byte{1}}
	grouped(t, "one list at two places", []any{l, l, api.List{l}, api.List{[]byte{1}}}, one(l, 3), one(api.List{l}, 1))
	var all []any
	var want []api.Count
	for i, v := range sample.Rising() {
		for range 1 + i%3 {
			all = append(all, v)
		}
		want = append(want, one(v, 1+i%3))
	}
	grouped(t, "rising", all, want...)
}

// P5.4: the error of the first value that has one.
func TestGroupWrong(t *testing.T) {
	wrongs := sample.Wrongs()
	for i, x := range wrongs {
		other := wrongs[(i+1)%len(wrongs)]
		for n, l := range [][]any{{x.V}, {x.V, nil}, {nil, true, x.V}, {x.V, other.V}, {nil, x.V, nil, other.V, nil}, {x.V, x.V}} {
			if got, e := digest.Group(l); len(got) != 0 || e != x.Why {
				t.Errorf("%s, %d: %v, %d, want %d", x.Name, n, got, e, x.Why)
			}
		}
	}
}

// P5.4: there may be more values than a list or a Map can hold.
func TestGroupMany(t *testing.T) {
	many := make([]any, 3*api.MaxItems+1)
	for i := range many {
		many[i] = int64(i * 7 % len(many))
	}
	got, e := digest.Group(many)
	if e != api.OK || len(got) != len(many) {
		t.Fatal(len(got), e)
	}
	for i, x := range got {
		if x.Value != int64(i) || x.N != 1 {
			t.Fatal(i, x)
		}
	}
	for i := range many {
		many[i] = api.List{int64(i % 2)}
	}
	grouped(t, "two", many, api.Count{Value: api.List{int64(0)}, N: len(many)/2 + 1}, api.Count{Value: api.List{int64(1)}, N: len(many) / 2})
}

// P5.7: the numbers add up, the values rise, each number is how often one stands there; it hangs not on the list's order.
func TestGroupsAddUp(t *testing.T) {
	r := rand.New(rand.NewSource(7))
	for range 100 {
		l := make([]any, r.Intn(60))
		for i := range l {
			l[i] = sample.Anyhow(r.Intn, 1+r.Intn(4))
		}
		got, e := digest.Group(l)
		sum := 0
		for i, x := range got {
			sum += x.N
			if i > 0 {
				if n, _ := value.Order(got[i-1].Value, x.Value); n != -1 {
					t.Errorf("%v behind %v", x.Value, got[i-1].Value)
				}
			}
			stands := 0
			for _, v := range l {
				if value.Same(v, x.Value) {
					stands++
				}
			}
			if stands != x.N {
				t.Errorf("%v stands there %d times, told %d", x.Value, stands, x.N)
			}
		}
		if e != api.OK || sum != len(l) {
			t.Errorf("%d of %d, %d", sum, len(l), e)
		}
		r.Shuffle(len(l), func(i, j int) { l[i], l[j] = l[j], l[i] })
		grouped(t, "shuffled", l, got...)
	}
}
