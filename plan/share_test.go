package plan_test

import (
	"slices"
	"testing"

	"tenon/api"
	"tenon/plan"
	"tenon/sample"
	"tenon/value"
)

// roomy is a record that holds memory of all sorts, with spare room in it.
func roomy() *api.Record {
	return sample.Roomy(rec(int64(1), sample.Field("b", api.List{"x", []byte{1, 2}}), sample.Field("c", api.Dict{sample.Field("d", sample.Twofold())}))).(*api.Record)
}

// mustBeRoomy is a table that has it under 1, however it is asked, and nothing else.
func mustBeRoomy(t *testing.T, name string, x *plan.Table) {
	t.Helper()
	want := roomy()
	r, e := x.Get(1)
	if !value.Same(r, want) || e != api.OK {
		t.Errorf("%s: %s, %d", name, sample.Told(r), e)
	}
	mustMean(t, x, `a = 1 and b = ["x", #0102]`, 1)
	mustMean(t, x, `b[1] < #0103`, 1)
	mustMean(t, x, `c.d[0] = #0102`, 1)
}

// Memory: a record that is put in is neither changed nor kept; one that was got is nobody else's.
func TestRecordsApart(t *testing.T) {
	x := fresh(t, of("a", "b", "b[1]", "c", "c.d")...)
	mustPut(t, x, 2, bare())
	r := roomy()
	mustPut(t, x, 1, r)
	if !value.Same(r, roomy()) || !sample.RoomKept(r) {
		t.Error("the record has changed:", sample.Told(r))
	}
	sample.Spoil(r)
	mustBeRoomy(t, "put", x)
	first, _ := x.Get(1)
	second, _ := x.Get(1)
	if at, is := sample.Apart(first, second); !is {
		t.Error("shared:", at)
	}
	for _, f := range first.Fields {
		sample.Spoil(f.Value)
	}
	mustBeRoomy(t, "got", x)
	mustDrop(t, x, 1, true)
	mustGo(t, x, `b = ["x", #0102]`, 1, 2, 0)
}

// Memory: a record that is refused is not changed either.
func TestRefusedApart(t *testing.T) {
	x := fresh(t, of("a")...)
	y := fresh(t, api.IndexOf{Way: "a", Unique: true})
	mustPut(t, y, 2, rec(int64(1)))
	r := roomy()
	must(t, "0", x.Put(0, r), api.ErrArg)
	must(t, "twice", y.Put(1, r), api.ErrTwice)
	if !value.Same(r, roomy()) || !sample.RoomKept(r) {
		t.Error(sample.Told(r))
	}
}

// Memory: one record that stands under several identities is several.
func TestOneRecordTwice(t *testing.T) {
	x := fresh(t, of("a")...)
	r := roomy()
	mustPut(t, x, 1, r)
	mustPut(t, x, 2, r)
	a, _ := x.Get(1)
	b, _ := x.Get(2)
	if at, is := sample.Apart(a, b, r); !is {
		t.Error("shared:", at)
	}
}

// Memory: definitions and expressions that were handed in may be written over.
func TestHandedIn(t *testing.T) {
	defs := append(make([]api.IndexOf, 0, 5), of("a", "b")...)
	x := fresh(t, defs...)
	for i := range defs[:5] {
		defs[:5][i] = api.IndexOf{Way: "spoilt"}
	}
	mustPut(t, x, 1, rec(int64(1)))
	mustPut(t, x, 2, rec(int64(2), sample.Field("b", api.List{[]byte{1}})))
	mustGo(t, x, "a = 2", 0, 2, 1)

	bytes := []byte{1}
	side := api.Expr{Op: "value", Value: api.Term{Kind: api.KBytes, Bytes: bytes}}
	parts := append(make([]api.Expr, 0, 3), side)
	e := api.Expr{Op: "=", Parts: append(make([]api.Expr, 0, 4), sample.Asked("b"), api.Expr{Op: "list", Parts: parts})}
	parts[:3][2].Op = "room"
	before := read(e)
	mustPlan(t, x, "", e, api.Plan{Index: 1, Asks: 1})
	mustTell(t, x, "", e, 2)
	if _, why := x.Top("", e, "b", true, 3); why != api.OK {
		t.Error(why)
	}
	if read(e) != before || parts[:3][1].Op != "" || parts[:3][2].Op != "room" || e.Parts[:4][2].Op != "" || len(bytes) != 1 || bytes[0] != 1 {
		t.Error("the expression has changed:", read(e))
	}
	bytes[0] = 9
	mustTell(t, x, "", e)
	mustMean(t, x, "b = [#01]", 2)
}

// Memory: identities that were told are nobody else's, spare room too.
func TestToldApart(t *testing.T) {
	x := filled(t, of("a"), int64(3), int64(1), int64(2), "x")
	e := parsed(t, "a >= 1")
	for range 3 {
		var told [][]api.Ref
		run, _ := x.Run("", e)
		again, _ := x.Run("", e)
		scan, _ := x.Scan("", e)
		top, _ := x.Top("", e, "a", false, 2)
		all, _ := x.Top("", e, "a", true, 9)
		told = append(told, run, again, scan, top, all)
		want := [][]api.Ref{refs(1, 2, 3), refs(1, 2, 3), refs(1, 2, 3), refs(2, 3), refs(1, 3, 2)}
		for i, l := range told {
			if !slices.Equal(l, want[i]) {
				t.Error(i, l)
			}
			for j := range l[:cap(l)] {
				l[:cap(l)][j] = 99
			}
		}
	}
	mustMean(t, x, "a >= 1", 1, 2, 3)
	mustMean(t, x, "a = 1", 2)
}

// Memory: what is told behind a change does not change what was told ahead.
func TestToldStays(t *testing.T) {
	x := filled(t, of("a"), int64(1), int64(1), int64(1))
	e := parsed(t, "a = 1")
	l, _ := x.Run("", e)
	r, _ := x.Get(1)
	mustPut(t, x, 1, rec("x"))
	mustDrop(t, x, 2, true)
	x.Run("", e)
	if !slices.Equal(l, refs(1, 2, 3)) || !value.Same(r, rec(int64(1))) {
		t.Error(l, sample.Told(r))
	}
}
