package plan_test

import (
	"math"
	"strings"
	"testing"

	"tenon/api"
	"tenon/query"
	"tenon/sample"
	"tenon/value"
)

// nears is whole numbers and floats that lie near one another, at each place where one of them can't be told by the other one, of both signs.
func nears() []any {
	var l []any
	for _, n := range []int64{0, 1, 2, 1<<53 - 1, 1 << 53, 1<<53 + 1, 1<<53 + 2, 1<<62 - 1, 1 << 62, 1<<62 + 1, math.MaxInt64 - 1024, math.MaxInt64 - 512, math.MaxInt64 - 511, math.MaxInt64 - 1, math.MaxInt64} {
		f := float64(n)
		l = append(l, n, -n, f, -f, math.Nextafter(f, math.Inf(1)), -math.Nextafter(f, math.Inf(1)), math.Nextafter(f, 0), -math.Nextafter(f, 0), f+0.5, -f-0.5)
	}
	return append(l, int64(math.MinInt64), int64(math.MinInt64+1), 1e300, -1e300, sample.MinusZero())
}

// held is what the records of the tests of keys hold: of all kinds, numbers near one another, and floats that are no numbers.
func held() []any {
	return append(append(nears(), sample.Rising()...), strings.Repeat("\xff", api.MaxText), strings.Repeat("x", api.MaxText), "x", api.List{"x"}, api.List{int64(1)}, api.List{1.0}, "abc", "abcd", []byte("abc"))
}

// sides is expressions that are fixed, of all kinds.
func sides() []api.Expr {
	var l []api.Expr
	for _, v := range held() {
		if e := sample.Fixed(v); read(e) != read(api.Expr{}) {
			l = append(l, e)
		}
		switch value.Kind(v) {
		case api.KInt, api.KFloat:
			if e := sample.Expr("neg", sample.Fixed(v)); read(e) != read(api.Expr{}) {
				l = append(l, e)
			}
		}
	}
	l = append(l, sample.Fixed(math.MaxFloat64), sample.Expr("neg", sample.Fixed(math.MaxFloat64)))
	return append(l, sample.Expr("list"), sample.Expr("list", sample.Fixed(nil)), sample.Expr("list", sample.Fixed(int64(1))), sample.Expr("list", sample.Fixed(1.0)), sample.Expr("list", sample.Expr("list"), sample.Fixed(nil)))
}

// P18.2, P18.3: of each sign and each fixed side at either side, as many are asked as have keys that query takes for meant, and they are told.
func TestKeys(t *testing.T) {
	values := held()
	x := filled(t, append(of("b"), api.IndexOf{Way: "a"}), values...)
	mustPut(t, x, 1000, bare())
	found := map[string]int{}
	for _, side := range sides() {
		for _, sign := range []string{"=", "<", "<=", ">", ">="} {
			right := sample.Expr(sign, sample.Expr("self"), side)
			var want []api.Ref
			for i, v := range values {
				if is, _, e := query.Match(right, v); is && e == api.OK {
					want = append(want, api.Ref(i+1))
				}
			}
			if is, _, _ := query.Match(right, nil); is {
				want = append(want, 1000)
			}
			found[sign] += len(want)
			left := map[string]string{"=": "=", "<": ">", "<=": ">=", ">": "<", ">=": "<="}[sign]
			for _, e := range []api.Expr{sample.Expr(sign, sample.Asked("a"), side), sample.Expr(left, side, sample.Asked("a"))} {
				mustPlan(t, x, "", e, api.Plan{Index: 1, Asks: len(want)})
				mustTell(t, x, "", e, want...)
			}
		}
	}
	for sign, n := range found {
		if n < 100 {
			t.Error(sign, n)
		}
	}
}

// P18.2, P18.5: the keys that a comparison means, told by hand where it is easy to err.
func TestKeysByHand(t *testing.T) {
	values := []any{int64(0), 0.0, sample.MinusZero(), int64(1 << 53), float64(1 << 53), int64(1<<53 + 1), int64(math.MaxInt64), float64(1 << 63), int64(math.MinInt64), -float64(1 << 63), math.NaN(), sample.Bits(0xfff8000000000001), math.Inf(1), math.Inf(-1), "x", nil, true, false}
	x := filled(t, of("a"), values...)
	for _, c := range []struct {
		s    string
		want []api.Ref
	}{
		{"a = 0", refs(1, 2, 3)},
		{"a = " + real(0), refs(1, 2)},
		{"a = -" + real(0), refs(1, 3)},
		{"a = -0", refs(1, 2, 3)},
		{"a = 9007199254740992", refs(4, 5)},
		{"a = 9007199254740993", refs(6)},
		{"a = " + real(1<<53), refs(4, 5)},
		{"a = 9223372036854775807", refs(7)},
		{"a = " + real(1<<63), refs(8)},
		{"a = -" + real(1<<63), refs(9, 10)},
		{"a < 0", refs(9, 10, 14)},
		{"a <= 0", refs(1, 2, 3, 9, 10, 14)},
		{"a < " + real(0), refs(9, 10, 14)},
		{"a >= -" + real(0), refs(1, 2, 3, 4, 5, 6, 7, 8, 13)},
		{"a > -" + real(0), refs(4, 5, 6, 7, 8, 13)},
		{"a <= " + real(0) + " and a >= 0", refs(1, 2, 3)},
		{"a > 9007199254740992", refs(6, 7, 8, 13)},
		{"a > 9223372036854775807", refs(8, 13)},
		{"a >= " + real(1<<63), refs(8, 13)},
		{"a < -9223372036854775807", refs(9, 10, 14)},
		{"a < -" + real(1<<63), refs(14)},
		{"a <= -" + real(1<<63), refs(9, 10, 14)},
		{"a >= -" + real(math.MaxFloat64) + " and a < -1", refs(9, 10)},
		{"a = nil", refs(16)},
		{"a > false", refs(17)},
		{"a <= false", refs(18)},
		{"a >= false", refs(17, 18)},
		{`a > ""`, refs(15)},
		{`a < "x"`, nil},
		{"a > #", nil},
		{"a > nil", nil},
		{"a >= @0", nil},
		{"a >= []", nil},
	} {
		mustMean(t, x, c.s, c.want...)
		if strings.Contains(c.s, "and") {
			continue
		}
		if p, e := x.Plan("", parsed(t, c.s)); p != (api.Plan{At: 2, Asks: len(c.want)}) || e != api.OK {
			t.Errorf("%s: %+v, %d", c.s, p, e)
		}
	}
}

// P18.2: who has one of the keys is counted once each, of one key as many as have it; what an index holds of another class, too.
func TestCounted(t *testing.T) {
	x := fresh(t, of("a")...)
	for i := range api.Ref(30) {
		r := rec([]any{int64(1), 1.0, "x"}[i%3])
		if i%2 == 0 {
			r.Class = "q"
		}
		mustPut(t, x, i+1, r)
	}
	mustGo(t, x, "a = 1", 0, 2, 20)
	mustGo(t, x, "a >= 1", 0, 2, 20)
	mustGo(t, x, `a = "x"`, 0, 2, 10)
	mustPlan(t, x, "p", parsed(t, `a = "x"`), api.Plan{At: 2, Asks: 10})
	mustTell(t, x, "p", parsed(t, `a = "x"`), 6, 12, 18, 24, 30)
	mustPlan(t, x, "none", parsed(t, `a = "x"`), api.Plan{At: 2, Asks: 10})
	mustTell(t, x, "none", parsed(t, `a = "x"`))
	mustMean(t, x, "a = 1", 1, 2, 4, 5, 7, 8, 10, 11, 13, 14, 16, 17, 19, 20, 22, 23, 25, 26, 28, 29)
}

// P18.2: as many asked as there are, and one fewer.
func TestAsManyAsThereAre(t *testing.T) {
	x := filled(t, of("a"), int64(1), 1.0, int64(1), int64(1))
	mustAskAll(t, x, "a = 1")
	mustAskAll(t, x, "a <= 1")
	mustPut(t, x, 5, rec(int64(2)))
	mustGo(t, x, "a = 1", 0, 2, 4)
	mustGo(t, x, "a <= 1", 0, 2, 4)
	mustAskAll(t, x, "a <= 2")
	mustPut(t, x, 5, rec(1.0))
	mustAskAll(t, x, "a = 1")
	mustPut(t, x, 6, bare())
	mustGo(t, x, "a = 1", 0, 2, 5)
	mustDrop(t, x, 6, true)
	mustAskAll(t, x, "a = 1")
}
