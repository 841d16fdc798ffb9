package plan_test

import (
	"fmt"
	"math"
	"testing"

	"tenon/api"
	"tenon/heap"
	"tenon/plan"
	"tenon/query"
	"tenon/sample"
)

// ages is the table of the chapter's first example.
func ages(t *testing.T, defs ...api.IndexOf) *plan.Table {
	x := fresh(t, defs...)
	for i, age := range []any{int64(30), 30.0, "30"} {
		mustPut(t, x, api.Ref(i+1), sample.Record("person", 1, sample.Field("age", age)))
	}
	return x
}

// Example 1, and example 7 of the whole.
func TestExampleAges(t *testing.T) {
	x := ages(t, of("age")...)
	mustMean(t, x, "age = 30", 1, 2)
	mustGo(t, x, "age = 30", 0, 4, 2)
	mustGo(t, x, `age > 29 and name = "ann"`, 0, 4, 2)
	mustAskAll(t, x, "not (age = 30)")
	mustMean(t, x, "not (age = 30)", 3)
}

// Example 2.
func TestExampleWays(t *testing.T) {
	x := fresh(t, of("a.b[0]", "age")...)
	for i, v := range []any{"w", "x", "y"} {
		mustPut(t, x, api.Ref(i+1), rec(api.Dict{sample.Field("b", api.List{v})}, sample.Field("age", int64(i+29))))
	}
	mustGo(t, x, `a.b[0] >= "x"`, 0, 7, 2)
	mustMean(t, x, `a.b[0] >= "x"`, 2, 3)
	mustGo(t, x, "30 < age", 1, 3, 1)
	mustMean(t, x, "30 < age", 3)

	y := ages(t, api.IndexOf{Way: "age", Some: true})
	mustPut(t, y, 4, sample.Record("person", 1))
	mustAskAll(t, y, "age = nil")
	mustMean(t, y, "age = nil", 4)
	z := ages(t, api.IndexOf{Way: "age", Some: true}, api.IndexOf{Way: "age"})
	mustPut(t, z, 4, sample.Record("person", 1))
	mustGo(t, z, "age = nil", 1, 4, 1)
	mustMean(t, z, "age = nil", 4)
}

// P6: a query answers the same of a record in whatever form it came: as a record of a heap, as one of a table, by indexes as by asking all, as a value that is matched.
func TestWhateverForm(t *testing.T) {
	h, e := heap.New(api.MaxHeap)
	must(t, "New", e, api.OK)
	c := newChance(1)
	x, plain := fresh(t, of("a", "b", "a.b", "c")...), fresh(t)
	for range 60 {
		id, e := h.Add(c.record())
		if e != api.OK { // it names a record that is not there
			continue
		}
		r, _ := h.Get(id)
		mustPut(t, x, id, r)
		mustPut(t, plain, id, r)
	}
	meant := 0
	for range 400 {
		q := c.question(t)
		var want []api.Ref
		for _, id := range h.IDs() {
			r, _ := h.Get(id)
			if is, _, _ := query.Match(q, r); is {
				want = append(want, id)
			}
		}
		mustTell(t, x, "", q, want...)
		mustTell(t, plain, "", q, want...)
		meant += len(want)
	}
	if x.Len() < 30 || meant < 1000 {
		t.Error(x.Len(), meant)
	}
}

// P18.7: Top tells some of Run's, each once; a longer one begins with a shorter one.
func TestTopBegins(t *testing.T) {
	c := newChance(7)
	x := fresh(t, of("a", "b")...)
	for id := range api.Ref(50) {
		mustPut(t, x, id+1, c.record())
	}
	for range 150 {
		q, way, down := c.question(t), c.way(), c.Intn(2) == 0
		run, _ := x.Run("p", q)
		is := map[api.Ref]bool{}
		for _, id := range run {
			is[id] = true
		}
		var shorter []api.Ref
		for most := range len(run) + 3 {
			l, e := x.Top("p", q, way, down, most)
			if e != api.OK || len(l) != min(most, len(run)) {
				t.Fatal(l, e, run)
			}
			if fmt.Sprint(l[:len(shorter)]) != fmt.Sprint(append(refs(), shorter...)) {
				t.Error(l, shorter)
			}
			seen := map[api.Ref]bool{}
			for _, id := range l {
				if !is[id] || seen[id] {
					t.Error(l, run)
				}
				seen[id] = true
			}
			shorter = l
		}
	}
}

// P2: a nil within a record is told, and so is what is no value; neither is there.
func TestNilIsToldApart(t *testing.T) {
	x := fresh(t, of("a")...)
	mustNotPut(t, "nobody", x, 1, sample.Nobody(), api.ErrNil)
	mustNotPut(t, "nobody within", x, 1, rec(api.List{sample.Nobody()}), api.ErrNil)
	mustNotPut(t, "a func", x, 1, rec(func() {}), api.ErrKind)
	mustNotPut(t, "a ring", x, 1, rec(sample.RecordRing()), api.ErrLong)
	mustPut(t, x, 1, rec(nil))
	mustPut(t, x, 2, rec(math.NaN()))
	mustPut(t, x, 3, rec(sample.Bits(0xfff8000000000001)))
	mustMean(t, x, "a = a", 1, 2, 3)
	mustMean(t, x, "a = nil", 1)
	mustMean(t, x, "a < 0 or a >= 0")
}
