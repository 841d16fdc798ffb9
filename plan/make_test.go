package plan_test

import (
	"fmt"
	"slices"
	"testing"

	"tenon/api"
	"tenon/plan"
	"tenon/query"
	"tenon/sample"
	"tenon/value"
)

func refs(ids ...api.Ref) []api.Ref { return ids }

// of is definitions of indexes of those ways, of all classes.
func of(ways ...string) []api.IndexOf {
	var l []api.IndexOf
	for _, way := range ways {
		l = append(l, api.IndexOf{Way: way})
	}
	return l
}

// fresh is a table without records, which must be made.
func fresh(t *testing.T, defs ...api.IndexOf) *plan.Table {
	t.Helper()
	x, e := plan.New(defs)
	if x == nil || e != api.OK {
		t.Fatal("New", defs, e)
	}
	return x
}

// parsed is the expression of a text, which must have one.
func parsed(t *testing.T, s string) api.Expr {
	t.Helper()
	e, at, why := query.Parse(s)
	if why != api.OK {
		t.Fatalf("%q: %d, %d", s, at, why)
	}
	return e
}

// rec is a record of class p with a field a, and perhaps more.
func rec(a any, more ...api.Field) *api.Record {
	return sample.Record("p", 1, append([]api.Field{sample.Field("a", a)}, more...)...)
}

// bare is a record of class p without fields.
func bare() *api.Record { return sample.Record("p", 1) }

// filled is a table of records of class p with one value each in field a, their identities from 1 on.
func filled(t *testing.T, defs []api.IndexOf, values ...any) *plan.Table {
	t.Helper()
	x := fresh(t, defs...)
	for i, v := range values {
		mustPut(t, x, api.Ref(i+1), rec(v))
	}
	return x
}

func must(t *testing.T, name any, got, want api.Errno) {
	t.Helper()
	if got != want {
		t.Errorf("%v: %d, want %d", name, got, want)
	}
}

func mustPut(t *testing.T, x *plan.Table, id api.Ref, r *api.Record) {
	t.Helper()
	if e := x.Put(id, r); e != api.OK {
		t.Fatalf("Put(%d, %s): %d", id, sample.Told(r), e)
	}
}

// mustNotPut has a table refuse a record, and stay as it is.
func mustNotPut(t *testing.T, name any, x *plan.Table, id api.Ref, r *api.Record, want api.Errno) {
	t.Helper()
	mustStay(t, name, x, func() { must(t, name, x.Put(id, r), want) })
}

func mustDrop(t *testing.T, x *plan.Table, id api.Ref, want bool) {
	t.Helper()
	if was := x.Drop(id); was != want {
		t.Errorf("Drop(%d): %v", id, was)
	}
}

func mustGet(t *testing.T, x *plan.Table, id api.Ref, want *api.Record) {
	t.Helper()
	if r, e := x.Get(id); !value.Same(r, want) || e != api.OK {
		t.Errorf("Get(%d): %s, %d, want %s", id, sample.Told(r), e, sample.Told(want))
	}
}

func mustNotGet(t *testing.T, x *plan.Table, ids ...api.Ref) {
	t.Helper()
	for _, id := range ids {
		if r, e := x.Get(id); r != nil || e != api.ErrIdentity {
			t.Errorf("Get(%d): %s, %d", id, sample.Told(r), e)
		}
	}
}

// shown is all that a table tells of the records and ways that the tests have most: what is there, and what each index has.
func shown(x *plan.Table) string {
	s := fmt.Sprint(x.Len(), " records")
	for id := range api.Ref(20) {
		if r, e := x.Get(id); e == api.OK {
			s += fmt.Sprint(", ", id, " ", sample.Told(r))
		}
	}
	for _, way := range []string{"a", "b", "c"} {
		for _, v := range []any{nil, true, int64(1), int64(2), 1.5, "x", "y"} {
			e := sample.Expr("=", sample.Asked(way), sample.Fixed(v))
			p, _ := x.Plan("p", e)
			l, _ := x.Run("p", e)
			m, _ := x.Scan("p", e)
			s += fmt.Sprint(", ", way, " = ", sample.Told(v), ": ", p, l, m)
		}
	}
	return s
}

// mustStay makes calls that must change nothing of a table.
func mustStay(t *testing.T, name any, x *plan.Table, calls func()) {
	t.Helper()
	ahead := shown(x)
	calls()
	if s := shown(x); s != ahead {
		t.Errorf("%v: %s, was %s", name, s, ahead)
	}
}

// mustPlan is how a query must go.
func mustPlan(t *testing.T, x *plan.Table, class string, e api.Expr, want api.Plan) {
	t.Helper()
	if p, why := x.Plan(class, e); p != want || why != api.OK {
		t.Errorf("Plan(%q, %s): %+v, %d, want %+v", class, read(e), p, why, want)
	}
}

// mustGo is likewise, of a text, in a query of whatever class.
func mustGo(t *testing.T, x *plan.Table, s string, index, at, asks int) {
	t.Helper()
	mustPlan(t, x, "", parsed(t, s), api.Plan{Index: index, At: at, Asks: asks})
}

// mustAskAll is that a query goes by no index.
func mustAskAll(t *testing.T, x *plan.Table, s string) {
	t.Helper()
	mustGo(t, x, s, -1, 0, x.Len())
}

// mustTell is whom a query means, by index and by asking all.
func mustTell(t *testing.T, x *plan.Table, class string, e api.Expr, want ...api.Ref) {
	t.Helper()
	if l, why := x.Run(class, e); !slices.Equal(l, want) || why != api.OK {
		t.Errorf("Run(%q, %s): %d, %d, want %d", class, read(e), l, why, want)
	}
	if l, why := x.Scan(class, e); !slices.Equal(l, want) || why != api.OK {
		t.Errorf("Scan(%q, %s): %d, %d, want %d", class, read(e), l, why, want)
	}
}

// mustMean is likewise, of a text, in a query of whatever class.
func mustMean(t *testing.T, x *plan.Table, s string, want ...api.Ref) {
	t.Helper()
	mustTell(t, x, "", parsed(t, s), want...)
}

// mustRefuse is a query that each call answers by an error.
func mustRefuse(t *testing.T, x *plan.Table, class string, e api.Expr, want api.Errno) {
	t.Helper()
	p, planned := x.Plan(class, e)
	run, ran := x.Run(class, e)
	scan, scanned := x.Scan(class, e)
	top, topped := x.Top(class, e, "a", false, 9)
	if p != (api.Plan{}) || run != nil || scan != nil || top != nil {
		t.Errorf("%q, %s: %+v, %d, %d, %d", class, read(e), p, run, scan, top)
	}
	for i, why := range []api.Errno{planned, ran, scanned, topped} {
		must(t, fmt.Sprint([]string{"Plan", "Run", "Scan", "Top"}[i], " ", class, ", ", read(e)), why, want)
	}
}

// mustLead is the first ones of whom a query means.
func mustLead(t *testing.T, x *plan.Table, s, way string, down bool, most int, want ...api.Ref) {
	t.Helper()
	if l, why := x.Top("", parsed(t, s), way, down, most); !slices.Equal(l, want) || why != api.OK {
		t.Errorf("Top(%s, %q, %v, %d): %d, %d, want %d", s, way, down, most, l, why, want)
	}
}

// read is an expression as it is read in what a test tells.
func read(e api.Expr) string {
	s, why := query.Print(e)
	if why != api.OK {
		return "one that can't be"
	}
	if len(s) > 300 {
		s = s[:150] + " .. " + s[len(s)-150:]
	}
	return s
}
