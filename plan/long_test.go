package plan_test

import (
	"slices"
	"strings"
	"testing"

	"tenon/api"
	"tenon/plan"
	"tenon/sample"
)

// many is a table of as many records as there may be, each with its number in a and b; their identities are 2, 4, 6 and so on.
func many(t *testing.T, defs ...api.IndexOf) *plan.Table {
	t.Helper()
	x := fresh(t, defs...)
	for i := range api.MaxHeap {
		mustPut(t, x, api.Ref(2*i+2), rec(int64(i), sample.Field("b", int64(i%8))))
	}
	return x
}

// P18.1: as many records as can be, and one more; each of them may still be put anew.
func TestFull(t *testing.T) {
	x := many(t, api.IndexOf{Way: "a", Unique: true}, api.IndexOf{Way: "b"})
	must(t, "one more", x.Put(1, bare()), api.ErrFull)
	must(t, "one more that is refused", x.Put(1, rec(int64(5))), api.ErrFull)
	must(t, "one more that can't be", x.Put(1, rec(7)), api.ErrKind)
	must(t, "one more that is none", x.Put(1, nil), api.ErrNil)
	must(t, "no identity", x.Put(0, bare()), api.ErrArg)
	mustNotGet(t, x, 1)
	must(t, "over another one, refused", x.Put(2, rec(int64(5))), api.ErrTwice)
	mustPut(t, x, 2, rec("x"))
	if x.Len() != api.MaxHeap {
		t.Error(x.Len())
	}
	mustDrop(t, x, 4, true)
	mustPut(t, x, 1, bare())
	must(t, "one more again", x.Put(4, bare()), api.ErrFull)
	mustGo(t, x, "a < 5 and b >= 0", 0, 2, 3)
	mustMean(t, x, "a < 5 and b >= 0", 6, 8, 10)
	mustMean(t, x, "a = nil", 1)
}

// P18.2, P18.4: as many records as can be are told.
func TestManyAsked(t *testing.T) {
	x := many(t, slices.Concat(of("a", "b"), slices.Repeat([]api.IndexOf{{Class: "p", Way: "a"}}, 14))...)
	mustGo(t, x, "b = 3 and a >= 100", 1, 2, 512)
	mustGo(t, x, "b = 3 and a >= 4000", 0, 12, 96)
	mustGo(t, x, "a >= 1", 0, 2, 4095)
	mustAskAll(t, x, "a >= 0")
	if l, e := x.Run("p", parsed(t, "a >= 1")); len(l) != 4095 || l[0] != 4 || l[4094] != 8192 || e != api.OK {
		t.Error(len(l), e)
	}
	mustMean(t, x, "b = 3 and a >= 4080", 8168, 8184)
	mustLead(t, x, "b = 3", "a", true, 2, 8184, 8168)
	if l, e := x.Top("", parsed(t, "true"), "b", false, 9999); len(l) != 4096 || l[0] != 2 || l[1] != 18 || l[4095] != 8192 || e != api.OK {
		t.Error(len(l), e)
	}
}

// P18.2: expressions as great as they can be: many comparisons, sides that are long, and what lies deep.
func TestLongExpressions(t *testing.T) {
	x := filled(t, of("b", "a"), numbers()...)
	e := sample.Expr("=", sample.Asked("a"), sample.Fixed(int64(5)))
	var left, right api.Expr = e, e
	for range 4095 {
		left = sample.Expr("and", left, sample.Expr("<", sample.Asked("a"), sample.Fixed(int64(8))))
		right = sample.Expr("and", sample.Expr(">=", sample.Fixed(int64(7)), sample.Asked("a")), right)
	}
	for _, e := range []api.Expr{left, right} { // 4 * 4096 - 1 expressions
		mustPlan(t, x, "", e, api.Plan{Index: 1, Asks: 1})
		mustTell(t, x, "", e, 5)
		mustPlan(t, x, "", sample.Expr("not", e), api.Plan{Index: -1, Asks: 9})
		mustRefuse(t, x, "", sample.Expr("and", e, sample.Fixed(true)), api.ErrArg)
	}
	within := sample.ExprsWithin(api.MaxNodes-3, sample.Asked("a"), "dot")
	mustPlan(t, x, "", sample.Expr("=", within, sample.Fixed(nil)), api.Plan{Index: -1, Asks: 9})
	lists := sample.ExprsWithin(api.MaxNodes-3, sample.Fixed(nil), "list")
	mustPlan(t, x, "", sample.Expr("=", sample.Asked("a"), lists), api.Plan{Index: 1})

	long := strings.Repeat("x", api.MaxText)
	mustPut(t, x, 10, rec(long))
	mustPlan(t, x, "", sample.Expr("=", sample.Asked("a"), sample.Fixed(long)), api.Plan{Index: 1, Asks: 1})
	mustTell(t, x, "", sample.Expr("<=", sample.Asked("a"), sample.Fixed(long)), 10)
	mustPut(t, x, 11, rec(sample.Items(api.MaxItems)))
	items := make([]api.Expr, api.MaxItems)
	for i := range items {
		items[i] = sample.Fixed(nil)
	}
	mustPlan(t, x, "", sample.Expr("=", sample.Expr("list", items...), sample.Asked("a")), api.Plan{Index: 1, Asks: 1})
	mustTell(t, x, "", sample.Expr("=", sample.Expr("list", items...), sample.Asked("a")), 11)
	mustPut(t, x, 12, rec(sample.Within(api.MaxDepth-1, nil)))
	mustPlan(t, x, "", sample.Expr("=", sample.Asked("a"), sample.ExprsWithin(api.MaxDepth-2, sample.Fixed(nil), "list")), api.Plan{Index: 1, Asks: 1})
}
