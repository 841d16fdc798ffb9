package plan_test

import (
	"slices"
	"testing"

	"tenon/api"
	"tenon/sample"
)

// P18.3: who is meant: of the class, and answers true; whoever answers no bool, or refuses the question, is not.
func TestMeant(t *testing.T) {
	for _, defs := range [][]api.IndexOf{nil, of("a"), of("a", "b", "a.b"), {{Way: "a", Some: true}, {Class: "p", Way: "b"}, {Class: "q", Way: "a"}}} {
		x := fresh(t, defs...)
		mustPut(t, x, 7, rec(int64(1), sample.Field("b", int64(2))))
		mustPut(t, x, 3, rec("x", sample.Field("b", int64(2))))
		mustPut(t, x, 9, rec(true))
		mustPut(t, x, 4, sample.Record("q", 2, sample.Field("a", int64(1))))
		mustPut(t, x, 1, sample.Record("q", 1, sample.Field("a", api.Dict{sample.Field("b", int64(2))})))
		for _, c := range []struct {
			class, s string
			want     []api.Ref
		}{
			{"", "true", refs(1, 3, 4, 7, 9)}, {"p", "true", refs(3, 7, 9)}, {"q", "true", refs(1, 4)}, {"none", "true", nil}, {"", "false", nil}, {"p", "1", nil}, {"", "nil", nil},
			{"", "a", refs(9)}, {"", "not a", nil}, {"", "a = 1", refs(4, 7)}, {"p", "a = 1", refs(7)}, {"q", "a = 1", refs(4)},
			{"", "a > 0", refs(4, 7)}, {"", "a > 0 and b = 2", refs(7)}, {"", "b = 2 and a > 0", refs(7)}, {"", "b = 2 or a > 0", refs(3, 4, 7)}, {"", "not (a > 0)", nil}, {"", "not (a = 1)", refs(1, 3, 9)},
			{"", "a.b = 2", refs(1)}, {"", "a.b = nil", nil}, {"", "a.c = nil", refs(1)}, {"p", "a.b = 2", nil}, {"", "a = 1 and 1", nil}, {"", "a = 1 and a.b", nil}, {"", "1 and a = 1", nil}, {"", "a = 1 and 1 / 0 = 1", nil},
			{"", "b = nil", refs(1, 4, 9)}, {"p", "b = nil", refs(9)}, {"", "self is record", refs(1, 3, 4, 7, 9)}, {"", `has(self, "b") and b = 2`, refs(3, 7)},
		} {
			mustTell(t, x, c.class, parsed(t, c.s), c.want...)
		}
	}
}

// P18.3: identities rise, however they were put in and whatever they are found by.
func TestRising(t *testing.T) {
	x := fresh(t, of("a")...)
	for i, id := range refs(9, 2, 1<<64-1, 5, 1, 1<<63, 7) {
		mustPut(t, x, id, rec([]any{int64(3), 3.0, int64(1), 2.5, int64(4), "x", nil}[i]))
	}
	mustMean(t, x, "true", 1, 2, 5, 7, 9, 1<<63, 1<<64-1)
	mustMean(t, x, "a = 3", 2, 9)
	mustMean(t, x, "a >= 1", 1, 2, 5, 9, 1<<64-1)
	mustMean(t, x, "a > 1", 1, 2, 5, 9)
}

// P18.3: the same question asked between changes of the table is told what is so then.
func TestBetweenChanges(t *testing.T) {
	x := fresh(t, of("a")...)
	mustMean(t, x, "a = 1")
	mustPut(t, x, 1, rec(int64(1)))
	mustPut(t, x, 2, rec(int64(2)))
	mustMean(t, x, "a = 1", 1)
	mustGo(t, x, "a = 1", 0, 2, 1)
	mustPut(t, x, 2, rec(1.0))
	mustMean(t, x, "a = 1", 1, 2)
	mustAskAll(t, x, "a = 1")
	mustPut(t, x, 1, rec("1"))
	mustMean(t, x, "a = 1", 2)
	mustLead(t, x, "true", "a", false, 1, 2)
	mustDrop(t, x, 2, true)
	mustMean(t, x, "a = 1")
	mustGo(t, x, "a = 1", 0, 2, 0)
	mustPut(t, x, 2, rec(int64(1)))
	mustMean(t, x, "a = 1", 2)
}

// P18.3: two tables know nothing of one another.
func TestTablesApart(t *testing.T) {
	defs := []api.IndexOf{{Way: "a", Unique: true}}
	x, y := fresh(t, defs...), fresh(t, defs...)
	r := rec(int64(1))
	mustPut(t, x, 1, r)
	mustStay(t, "y", y, func() { mustPut(t, x, 3, rec("x")) })
	mustStay(t, "x", x, func() {
		mustPut(t, y, 2, r)
		mustPut(t, y, 1, rec("x"))
		mustDrop(t, y, 1, true)
	})
	mustMean(t, x, "a = 1", 1)
	mustMean(t, y, "a = 1", 2)
}

// P18.4: the first ones by what lies there, down and not, of the same by their identities.
func TestTop(t *testing.T) {
	for _, defs := range [][]api.IndexOf{nil, of("a"), of("b", "a")} {
		x := fresh(t, defs...)
		for id, v := range []any{nil, int64(3), "x", int64(1), 1.5, int64(3), nil, "a", int64(1)} {
			if id > 0 {
				mustPut(t, x, api.Ref(id), rec(v, sample.Field("b", api.List{int64(id % 2)})))
			}
		}
		mustPut(t, x, 9, bare())
		up := refs(6, 9, 3, 8, 1, 5, 4, 7, 2)
		down := refs(2, 7, 4, 1, 5, 3, 8, 6, 9)
		for most := range 12 {
			n := min(most, 9)
			mustLead(t, x, "true", "a", false, most, up[:n]...)
			mustLead(t, x, "true", "a", true, most, down[:n]...)
		}
		mustLead(t, x, "true", "a", true, 1<<62, down...)
		mustLead(t, x, "a >= 1", "a", false, 9, 3, 8, 1, 5, 4)
		mustLead(t, x, "a >= 1", "a", true, 2, 4, 1)
		mustLead(t, x, "a >= 1", "a", true, 4, 4, 1, 5, 3)
		mustLead(t, x, "true", "b[0]", false, 9, 9, 2, 4, 6, 8, 1, 3, 5, 7)
		mustLead(t, x, "true", "b[0]", true, 9, 1, 3, 5, 7, 2, 4, 6, 8, 9)
		for _, way := range []string{"none", "b[1]", "b.a", "a.a", "b[0][0]", "c.d"} {
			mustLead(t, x, "true", way, false, 9, 1, 2, 3, 4, 5, 6, 7, 8, 9)
			mustLead(t, x, "true", way, true, 3, 1, 2, 3)
		}
		mustLead(t, x, "false", "a", true, 9)
		if l, e := x.Top("p", parsed(t, "a = 3"), "a", false, 9); !slices.Equal(l, refs(1, 5)) || e != api.OK {
			t.Error(l, e)
		}
		if l, e := x.Top("q", parsed(t, "true"), "a", false, 9); l != nil || e != api.OK {
			t.Error(l, e)
		}
	}
}

// P18.4: of the empty way the records themselves lie there.
func TestTopWhole(t *testing.T) {
	x := fresh(t)
	mustPut(t, x, 1, sample.Record("q", 1))
	mustPut(t, x, 2, sample.Record("p", 2))
	mustPut(t, x, 3, sample.Record("p", 1, sample.Field("a", nil)))
	mustPut(t, x, 4, sample.Record("p", 2))
	mustPut(t, x, 5, sample.Record("p", 1))
	mustLead(t, x, "true", "", false, 9, 5, 3, 2, 4, 1)
	mustLead(t, x, "true", "", true, 9, 1, 2, 4, 3, 5)
}

// P18.4: values of all kinds, each of which comes ahead of the next, in their order.
func TestTopKinds(t *testing.T) {
	x := fresh(t)
	values := sample.Rising()
	var up []api.Ref
	for i := range values {
		id := api.Ref((i*7)%len(values) + 1)
		mustPut(t, x, id, rec(values[i]))
		up = append(up, id)
	}
	if x.Len() != len(values) {
		t.Fatal("7 divides the number of values")
	}
	mustLead(t, x, "true", "a", false, len(values), up...)
	slices.Reverse(up)
	mustLead(t, x, "true", "a", true, len(values), up...)
}

// P18.4: the errors, each by itself and each ahead of those behind it.
func TestTopWrong(t *testing.T) {
	x := filled(t, of("a"), int64(1), int64(2))
	for _, c := range []struct {
		class, s, way string
		most          int
		want          api.Errno
	}{
		{"P", "true", "a..", -1, api.ErrName}, {"", "true", "a..", 1, api.ErrForm}, {"", "true", "a.", -1, api.ErrShort}, {"", "true", "A", 1, api.ErrForm}, {"", "true", "a[", 0, api.ErrShort}, {"", "true", "9a", 0, api.ErrName}, {"", "true", "a[4096]", -1, api.ErrArg}, {"", "false", "a b", 1, api.ErrForm},
		{"", "true", "a", -1, api.ErrArg}, {"", "false", "", -1, api.ErrArg}, {"p", "true", "a", -1 << 63, api.ErrArg}, {"none", "true", "[0]", -1, api.ErrArg},
	} {
		for _, down := range []bool{false, true} {
			if l, e := x.Top(c.class, parsed(t, c.s), c.way, down, c.most); l != nil || e != c.want {
				t.Errorf("%+v: %d, %d", c, l, e)
			}
		}
	}
	if l, e := x.Top("", api.Expr{Op: "?"}, "a..", false, -1); l != nil || e != api.ErrArg {
		t.Error(l, e)
	}
	mustLead(t, x, "true", "[0]", false, 2, 1, 2)
}
