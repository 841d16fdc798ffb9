package plan_test

import (
	"slices"
	"strings"
	"testing"

	"tenon/api"
	"tenon/index"
	"tenon/plan"
	"tenon/sample"
)

// P18.1: tables of no indexes, of one, of as many as can be, and of one more.
func TestNew(t *testing.T) {
	for _, n := range []int{0, 1, 15, 16} {
		x := fresh(t, slices.Repeat(of("a"), n)...)
		if x.Len() != 0 {
			t.Error(n, x.Len())
		}
		mustNotGet(t, x, 0, 1)
		mustAskAll(t, x, "a = 1")
	}
	for _, n := range []int{17, 18, 1000} {
		x, e := plan.New(slices.Repeat(of("a"), n))
		if x != nil || e != api.ErrLong {
			t.Error(n, x, e)
		}
	}
	if x, e := plan.New(slices.Repeat(of("A"), 17)); x != nil || e != api.ErrLong {
		t.Error("too many that can't be", x, e)
	}
}

// P18.1: a definition that can't be is told as index.New tells it, the first one's.
func TestNewWrong(t *testing.T) {
	wrong := []struct {
		def api.IndexOf
		why api.Errno
	}{
		{api.IndexOf{Class: "P", Way: "a"}, api.ErrName},
		{api.IndexOf{Class: "P", Way: ""}, api.ErrName},
		{api.IndexOf{Way: ""}, api.ErrArg},
		{api.IndexOf{Way: "[0]"}, api.ErrArg},
		{api.IndexOf{Way: "a["}, api.ErrShort},
		{api.IndexOf{Way: "a..b"}, api.ErrForm},
		{api.IndexOf{Way: "A"}, api.ErrForm},
		{api.IndexOf{Way: "9a"}, api.ErrName},
		{api.IndexOf{Way: "a[4096]"}, api.ErrArg},
		{api.IndexOf{Way: "a" + strings.Repeat("[0]", api.MaxDepth)}, api.ErrLong},
	}
	for i, w := range wrong {
		if _, e := index.New(w.def); e != w.why {
			t.Errorf("%+v: index.New: %d, want %d", w.def, e, w.why)
		}
		other := wrong[(i+1)%len(wrong)].def
		for _, defs := range [][]api.IndexOf{{w.def}, {w.def, other}, {{Way: "a"}, {Way: "b"}, w.def}, {{Way: "a"}, w.def, {Way: "b"}, other}, append(slices.Repeat(of("a"), 15), w.def)} {
			if x, e := plan.New(defs); x != nil || e != w.why {
				t.Errorf("%+v: %v, %d, want %d", defs, x, e, w.why)
			}
		}
	}
}

// P18.1: what is put in is there, and goes again.
func TestPut(t *testing.T) {
	x := fresh(t, of("a")...)
	ids := refs(5, 1, 1<<63, 1<<64-1)
	for i, id := range ids {
		mustNotGet(t, x, id)
		mustDrop(t, x, id, false)
		mustPut(t, x, id, rec(int64(i)))
		mustGet(t, x, id, rec(int64(i)))
		if x.Len() != i+1 {
			t.Error(id, x.Len())
		}
	}
	mustMean(t, x, "a >= 0", 1, 5, 1<<63, 1<<64-1)
	mustNotGet(t, x, 0, 2, 1<<62)
	for i, id := range ids {
		mustDrop(t, x, 0, false)
		mustDrop(t, x, id, true)
		mustDrop(t, x, id, false)
		mustNotGet(t, x, id)
		if x.Len() != 3-i {
			t.Error(id, x.Len())
		}
	}
	mustMean(t, x, "a >= 0")
	mustPut(t, x, 5, rec("again"))
	mustMean(t, x, `a = "again"`, 5)
}

// P18.1: a record put over another one takes its place, in each index.
func TestPutOver(t *testing.T) {
	x := fresh(t, api.IndexOf{Way: "a"}, api.IndexOf{Way: "b", Some: true}, api.IndexOf{Class: "p", Way: "a", Unique: true})
	for id := range api.Ref(5) {
		mustPut(t, x, id+10, rec(int64(id), sample.Field("b", "others")))
	}
	mustPut(t, x, 1, rec("one", sample.Field("b", "first")))
	for _, s := range []string{`a = "one"`, `b = "first"`} {
		mustMean(t, x, s, 1)
	}
	mustPut(t, x, 1, rec("two"))
	if x.Len() != 6 {
		t.Error(x.Len())
	}
	mustGo(t, x, `a = "one"`, 0, 2, 0)
	mustGo(t, x, `b = "first"`, 1, 2, 0)
	mustGo(t, x, `a = "two"`, 0, 2, 1)
	mustMean(t, x, `a = "one"`)
	mustMean(t, x, `b = "first"`)
	mustMean(t, x, `a = "two"`, 1)
	mustMean(t, x, `b = nil`, 1)
	mustPut(t, x, 1, sample.Record("q", 7, sample.Field("a", int64(3))))
	mustGet(t, x, 1, sample.Record("q", 7, sample.Field("a", int64(3))))
	mustTell(t, x, "p", parsed(t, "a = 3"), 13)
	mustTell(t, x, "q", parsed(t, "a = 3"), 1)
	mustPlan(t, x, "p", parsed(t, "a = 3"), api.Plan{Index: 2, At: 2, Asks: 1})
	mustPut(t, x, 1, rec("two"))
	mustPut(t, x, 1, rec("two"))
	mustDrop(t, x, 1, true)
	mustGo(t, x, `a = "two"`, 0, 2, 0)
	mustPlan(t, x, "p", parsed(t, `a = "two"`), api.Plan{Index: 0, At: 2})
	mustPut(t, x, 2, rec("two"))
}

// P18.1: what can't be put in: each error by itself, and each ahead of those behind it.
func TestPutWrong(t *testing.T) {
	x := fresh(t, api.IndexOf{Way: "a"}, api.IndexOf{Way: "b", Unique: true, Some: true})
	mustPut(t, x, 1, rec(int64(1), sample.Field("b", "x")))
	mustPut(t, x, 2, rec(int64(2)))
	mustNotPut(t, "no identity", x, 0, rec(int64(1)), api.ErrArg)
	mustNotPut(t, "no identity, none", x, 0, nil, api.ErrArg)
	mustNotPut(t, "no identity, can't be", x, 0, rec(7), api.ErrArg)
	for _, id := range refs(1, 2, 3) {
		mustNotPut(t, "none", x, id, nil, api.ErrNil)
		for _, w := range sample.Wrongs() {
			if _, is := w.V.(*api.Record); !is {
				continue
			}
			mustNotPut(t, w.Name, x, id, w.V.(*api.Record), w.Why)
		}
		mustNotPut(t, "an alien within", x, id, rec(api.List{nil, 7}, sample.Field("b", "x")), api.ErrKind)
		mustNotPut(t, "nobody within", x, id, rec(sample.Nobody()), api.ErrNil)
	}
	mustNotPut(t, "twice", x, 2, rec(int64(3), sample.Field("b", "x")), api.ErrTwice)
	mustNotPut(t, "twice, a new one", x, 3, rec(int64(3), sample.Field("b", "x")), api.ErrTwice)
}

// P18.1: where an index refuses a record, whichever of them, nothing is changed, in no index.
func TestPutRefused(t *testing.T) {
	for refusing := range 4 {
		defs := []api.IndexOf{{Way: "a"}, {Way: "b"}, {Way: "c"}, {Way: "a", Some: true}}
		defs[refusing].Unique = true
		x := fresh(t, defs...)
		mustPut(t, x, 1, rec(int64(1), sample.Field("b", int64(1)), sample.Field("c", int64(1))))
		mustPut(t, x, 2, rec("x", sample.Field("b", "x"), sample.Field("c", "x")))
		mustPut(t, x, 3, rec("y", sample.Field("b", "y"), sample.Field("c", "y")))
		r := rec(true, sample.Field("b", true), sample.Field("c", true))
		i := slices.IndexFunc(r.Fields, func(f api.Field) bool { return f.Name == defs[refusing].Way })
		r.Fields[i].Value = int64(1)
		mustNotPut(t, refusing, x, 4, r, api.ErrTwice)
		mustNotPut(t, refusing, x, 2, r, api.ErrTwice)
		mustNotGet(t, x, 4)
		mustPut(t, x, 1, r)
		mustPut(t, x, 1, r)
		mustDrop(t, x, 1, true)
		mustPut(t, x, 4, r)
	}
}

// P18.1: an index with a Class takes others nothing on; those that are Unique ask each for themselves.
func TestPutUnique(t *testing.T) {
	x := fresh(t, api.IndexOf{Class: "q", Way: "a", Unique: true}, api.IndexOf{Way: "b", Unique: true, Some: true})
	mustPut(t, x, 1, rec("x"))
	mustPut(t, x, 2, rec("x"))
	mustPut(t, x, 3, sample.Record("q", 1, sample.Field("a", "x")))
	mustNotPut(t, "of the class", x, 4, sample.Record("q", 2, sample.Field("a", "x")), api.ErrTwice)
	mustPut(t, x, 4, sample.Record("q", 2, sample.Field("b", "x")))
	mustNotPut(t, "nil is a key", x, 5, sample.Record("q", 2), api.ErrTwice)
	mustNotPut(t, "by the second one", x, 2, rec("x", sample.Field("b", "x")), api.ErrTwice)
	mustPut(t, x, 4, sample.Record("p", 2))
	mustPut(t, x, 2, rec("x", sample.Field("b", "x")))
	mustPut(t, x, 5, sample.Record("q", 2))
}

// A Table that no call of the package made takes records and answers.
func TestZeroEnds(t *testing.T) {
	x := &plan.Table{}
	x.Get(1)
	x.Drop(1)
	x.Len()
	e := parsed(t, "a = 1 and b > 2")
	for range 2 {
		x.Plan("", e)
		x.Run("p", e)
		x.Scan("", e)
		x.Top("", e, "a", true, 2)
		x.Put(1, rec(int64(1)))
		x.Put(0, nil)
		x.Get(1)
	}
	x.Drop(1)
}
