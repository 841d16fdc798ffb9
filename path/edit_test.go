package path_test

import (
	"strings"
	"testing"

	"tenon/api"
	"tenon/path"
	"tenon/sample"
	"tenon/value"
)

// P4.8: the edits, by the chapter's rules, in their order. (P4.12: Apply of them is there.)
func TestDiff(t *testing.T) {
	for _, x := range []struct{ a, b, want string }{
		{"[1, 2, 3]", "[1, 5]", "=[1] 5; -[2]"}, {"{a: 1}", "{b: 1}", "-a; +b 1"}, {"1", "0x1p+00", "= 0x1p+00"}, // the chapter's own

		{mixed, mixed, ""}, {"nil", "nil", ""}, {"[]", "[]", ""}, {"{}", "{}", ""}, {"c/1{a: 1}", "c/1{a: 1}", ""}, {"nan(7ff8000000000001)", "nan(7ff8000000000001)", ""},
		{"1", "2", "= 2"}, {"1", "nil", "= nil"}, {"nil", "[]", "= []"}, {"0x0p+00", "-0x0p+00", "= -0x0p+00"}, {"nan(7ff8000000000001)", "nan(7ff8000000000002)", "= nan(7ff8000000000002)"}, {"true", "false", "= false"}, {`"a"`, `"b"`, `= "b"`}, {`"a"`, "#61", "= #61"}, {"#01", "#02", "= #02"}, {"@1", "@2", "= @2"}, {"@1", "1", "= 1"},
		{"[]", "{}", "= {}"}, {"{}", "[]", "= []"}, {"{a: 1}", "c/1{a: 1}", "= c/1{a: 1}"}, {"c/1{a: 1}", "{a: 1}", "= {a: 1}"}, {"c/1{a: 1}", "d/1{a: 1}", "= d/1{a: 1}"}, {"c/1{a: 1}", "c/2{a: 1}", "= c/2{a: 1}"}, {"c/1{}", "c/2{}", "= c/2{}"}, {"[c/1{a: 1}]", "[c/2{a: 1}]", "=[0] c/2{a: 1}"}, {"{a: [1]}", "{a: {b: 1}}", "=a {b: 1}"},

		{"[1]", "[]", "-[0]"}, {"[1, 2, 3]", "[]", "-[2]; -[1]; -[0]"}, {"[]", "[1, 2]", "+[0] 1; +[1] 2"}, {"[1]", "[1, nil]", "+[1] nil"}, {"[1, 2]", "[2, 1]", "=[0] 2; =[1] 1"}, {"[1, 2, 3, 4]", "[2, 2, 4]", "=[0] 2; =[2] 4; -[3]"}, {"[[1], [2]]", "[[1, 5], []]", "+[0][1] 5; -[1][0]"}, {"[[1, 2], 3, 4]", "[[]]", "-[0][1]; -[0][0]; -[2]; -[1]"}, {"[[]]", "[[1], [2], 3]", "+[0][0] 1; +[1] [2]; +[2] 3"}, {"[0, 1, 2]", "[1, 2]", "=[0] 1; =[1] 2; -[2]"},
		{"{}", "{a: 1, b: [2]}", "+a 1; +b [2]"}, {"{a: 1, b: 2}", "{}", "-a; -b"}, {"{a: 1, c: 2, e: 3}", "{b: 1, c: 5, d: 4}", "-a; +b 1; =c 5; +d 4; -e"}, {"{b: 1}", "{a: 1, b: 1, c: 1}", "+a 1; +c 1"}, {"{a: 1, b: 1, c: 1}", "{b: 1}", "-a; -c"}, {"{a: {x: 1}, b: 2}", "{a: {y: 1}, b: 3}", "-a.x; +a.y 1; =b 3"}, {"{b: 1}", "{b0: 1, b_: 2, bb: 3}", "-b; +b0 1; +b_ 2; +bb 3"},
		{"c/2{a: 1, b: [1, 2]}", "c/2{b: [3], c: nil}", "-a; =b[0] 3; -b[1]; +c nil"}, {"{a: c/1{x: 1}, b: c/1{}}", "{a: c/1{x: 2}, b: c/1{x: c/1{}}}", "=a.x 2; +b.x c/1{}"}, {"{a: nil}", "{}", "-a"}, {"[nil]", "[]", "-[0]"},
	} {
		l, e := path.Diff(val(x.a), val(x.b))
		if got := sayEdits(l); got != x.want || e != api.OK {
			t.Errorf("from %s to %s: %s, %d, want %s", x.a, x.b, got, e, x.want)
		}
		for _, edit := range l {
			if edit.What == api.Drop && edit.Value != nil {
				t.Errorf("from %s to %s: a Drop has a value", x.a, x.b)
			}
		}
		v, e := path.Apply(val(x.a), l)
		answers(t, "from "+x.a+" there", v, e, x.b, api.OK)
	}
}

// P4.8, section 4.2: the error of a, then of b.
func TestDiffWrong(t *testing.T) {
	good := []any{nil, api.List{}, val(mixed)}
	for _, w := range sample.Wrongs() {
		for _, v := range good {
			if l, e := path.Diff(w.V, v); len(l) != 0 || e != w.Why {
				t.Errorf("%s: %v, %d", w.Name, l, e)
			}
			if l, e := path.Diff(v, w.V); len(l) != 0 || e != w.Why {
				t.Errorf("%s as b: %v, %d", w.Name, l, e)
			}
		}
		if l, e := path.Diff(w.V, w.V); len(l) != 0 || e != w.Why {
			t.Errorf("%s twice: %v, %d", w.Name, l, e)
		}
	}
	if _, e := path.Diff(sample.Nobody(), 7); e != api.ErrNil {
		t.Error("a's error comes first:", e)
	}
	if _, e := path.Diff(7, sample.Nobody()); e != api.ErrKind {
		t.Error("a's error comes first:", e)
	}
}

// do is edits of texts: = is Set, + Add, - Drop, then the way and, behind a blank, the value.
func do(s string) []api.Edit {
	var l []api.Edit
	for _, one := range strings.Split(s, "; ") {
		if one == "" {
			continue
		}
		to, v, has := strings.Cut(one[1:], " ")
		x := api.Edit{What: strings.IndexByte("?=+-", one[0]), Way: way(to)}
		if has {
			x.Value = val(v)
		}
		l = append(l, x)
	}
	return l
}

// P4.9: edit by edit, each on what came of those ahead.
func TestApply(t *testing.T) {
	for _, x := range []struct {
		v, edits, want string
		why            api.Errno
	}{
		{"[1]", "+[0] true", "", api.ErrArg}, {"{a: 1}", "", "{a: 1}", 0}, {"nil", "", "nil", 0},
		{"1", "= 2", "2", 0}, {"[1]", "= nil", "nil", 0}, {"nil", "= {a: [1]}", "{a: [1]}", 0}, {"[1]", "=[0] 2", "[2]", 0}, {"{a: 1}", "=a {}", "{a: {}}", 0}, {"c/1{a: [1, 2]}", "=a[1] nil", "c/1{a: [1, nil]}", 0},
		{"[1]", "=[1] 2", "", api.ErrIndex}, {"{a: 1}", "=b 1", "", api.ErrNone}, {"{a: 1}", "=[0] 1", "", api.ErrInto}, {"[1]", "=a 1", "", api.ErrInto}, {"1", "=a 1", "", api.ErrInto}, {"{a: 1}", "=b.c 1", "", api.ErrNone}, {"[1]", "=[1].c 1", "", api.ErrIndex}, {"[1]", "=[0][0] 1", "", api.ErrInto},

		{"[]", "+[0] 1", "[1]", 0}, {"[1]", "+[1] []", "[1, []]", 0}, {"{b: 1}", "+a 2", "{a: 2, b: 1}", 0}, {"{b: 1}", "+c 2", "{b: 1, c: 2}", 0}, {"c/3{}", "+c c/1{}", "c/3{c: c/1{}}", 0}, {"[[1], [2]]", "+[0][1] 5", "[[1, 5], [2]]", 0},
		{"nil", "+ 1", "", api.ErrArg}, {"[]", "+ 1", "", api.ErrArg}, {"[1, 2]", "+[1] 1", "", api.ErrArg}, {"[1, 2]", "+[0] 1", "", api.ErrArg}, {"[1, 2]", "+[3] 1", "", api.ErrIndex}, {"[]", "+[4095] 1", "", api.ErrIndex}, {"{a: 1}", "+a 1", "", api.ErrArg}, {"c/1{a: 1}", "+a 1", "", api.ErrArg}, {"{a: 1}", "+b.c 1", "", api.ErrNone}, {"{a: 1}", "+a.c 1", "", api.ErrInto}, {"{a: 1}", "+[0] 1", "", api.ErrInto}, {"[1]", "+a 1", "", api.ErrInto}, {"[1]", "+[1][0] 1", "", api.ErrIndex}, {"#00", "+[1] 1", "", api.ErrInto},

		{"[1, 2]", "-[1]", "[1]", 0}, {"[1]", "-[0]", "[]", 0}, {"{a: 1, b: 2, c: 3}", "-b", "{a: 1, c: 3}", 0}, {"{a: 1, b: 2, c: 3}", "-a", "{b: 2, c: 3}", 0}, {"c/1{a: 1}", "-a", "c/1{}", 0}, {"[[1, 2], 3]", "-[0][1]", "[[1], 3]", 0}, {"[1, 2]", "-[1] 5", "[1]", 0},
		{"nil", "-", "", api.ErrArg}, {"[1]", "-", "", api.ErrArg}, {"[1, 2]", "-[0]", "", api.ErrArg}, {"[1, 2, 3]", "-[1]", "", api.ErrArg}, {"[1, 2]", "-[2]", "", api.ErrIndex}, {"[]", "-[0]", "", api.ErrIndex}, {"{}", "-a", "", api.ErrNone}, {"{b: 1}", "-a", "", api.ErrNone}, {"{b: 1}", "-[0]", "", api.ErrInto}, {"[1]", "-b", "", api.ErrInto}, {"1", "-b", "", api.ErrInto}, {"{b: 1}", "-a.a", "", api.ErrNone}, {"[[]]", "-[1][0]", "", api.ErrIndex},

		{"[]", "+[0] 1; +[1] 2; =[0] 5; -[1]", "[5]", 0}, {"[]", "+[0] {}; +[0].a []; +[0].a[0] 7", "[{a: [7]}]", 0}, {"{a: 1}", "-a; +a 2; =a 3", "{a: 3}", 0}, {"{a: 1}", "= [1]; +[1] 2; = nil", "nil", 0}, {"[1]", "-[0]; -[0]", "", api.ErrIndex}, {"{}", "+a 1; +a 1", "", api.ErrArg}, {"{a: 1}", "-a; =a 1", "", api.ErrNone}, {"[1]", "=[0] {}; =[0][0] 1", "", api.ErrInto}, {"[]", "+[0] 1; +[0] 1", "", api.ErrArg}, {"[1, 2]", "-[1]; -[0]", "[]", 0}, {"[1, 2]", "-[0]; -[9]", "", api.ErrArg}, {"[1, 2]", "-[9]; -[0]", "", api.ErrIndex},
	} {
		v, e := path.Apply(val(x.v), do(x.edits))
		answers(t, x.v+" by "+x.edits, v, e, x.want, x.why)
	}
	if v, e := path.Apply(api.List{true}, nil); e != api.OK || !value.Same(v, api.List{true}) {
		t.Error("no edits:", v, e)
	}
}

// P4.9: the order of an edit's errors: what it does, its way, its value, what lies there; and edits ahead come first.
func TestApplyErrors(t *testing.T) {
	for _, w := range sample.Wrongs() {
		for _, l := range [][]api.Edit{nil, do("= 1"), {{What: 9}}, {{What: api.Set, Way: steps(name("A"))}}} {
			v, e := path.Apply(w.V, l)
			answers(t, w.Name, v, e, "", w.Why)
		}
		for _, x := range []api.Edit{{What: api.Set}, {What: api.Add}, {What: api.Set, Way: way("z.y")}, {What: api.Add, Way: way("z.y")}, {What: api.Add, Way: way("a")}, {What: api.Set, Way: way("a")}} {
			x.Value = w.V
			v, e := path.Apply(val("{a: 1}"), []api.Edit{x})
			answers(t, "a value, "+w.Name, v, e, "", w.Why)
		}
		v, e := path.Apply(val("{a: 1}"), []api.Edit{{What: api.Drop, Way: way("a"), Value: w.V}})
		answers(t, "a Drop's value, "+w.Name, v, e, "{}", api.OK)
	}
	for i, w := range badWays() {
		for what := range 6 {
			why := w.why
			if what < api.Set || what > api.Drop {
				why = api.ErrArg
			}
			v, e := path.Apply(val("{a: 1}"), []api.Edit{{What: what, Way: w.way, Value: 7}})
			answers(t, "a bad way", v, e, "", why)
			if t.Failed() {
				t.Fatal(i, what)
			}
		}
		v, e := path.Apply(val("{a: 1}"), append(do("-a; -a"), api.Edit{What: api.Set, Way: w.way}))
		answers(t, "an edit ahead of a bad way", v, e, "", api.ErrNone)
	}
	for _, what := range []int{0, 4, -1, 1 << 40, -1 << 63} {
		for _, x := range []api.Edit{{}, {Way: way("a")}, {Way: way("b"), Value: 7}, {Way: times(api.MaxDepth+1, name("a"))}} {
			x.What = what
			v, e := path.Apply(val("{a: 1}"), []api.Edit{x})
			answers(t, "none of the three", v, e, "", api.ErrArg)
			v, e = path.Apply(val("{a: 1}"), append(do("=b 1"), x))
			answers(t, "an edit ahead", v, e, "", api.ErrNone)
		}
	}
}

// P4.9: what comes between need not be able to be; the whole must.
func TestApplyTooMuch(t *testing.T) {
	great := sample.Numbered(api.MaxNodes-1, nil)
	deep := sample.Within(api.MaxDepth, api.List{})
	add := func(to string, v any) api.Edit { return api.Edit{What: api.Add, Way: way(to), Value: v} }
	for _, x := range []struct {
		what  string
		v     any
		edits []api.Edit
		want  any
		why   api.Errno
	}{
		{"too great", val("[]"), []api.Edit{add("[0]", great)}, nil, api.ErrLong}, {"too great between", val("[]"), append([]api.Edit{add("[0]", great), add("[1]", great)}, do("-[1]; =[0] 1")...), val("[1]"), 0}, {"too great within between", val("[]"), append([]api.Edit{add("[0]", great), add("[1]", great)}, do("= 1")...), val("1"), 0},
		{"too deep", val("[]"), []api.Edit{add("[0]", deep)}, nil, api.ErrLong}, {"too deep between", val("[]"), append([]api.Edit{add("[0]", deep)}, do("-[0]")...), val("[]"), 0},
		{"below the deepest", deep, []api.Edit{{What: api.Add, Way: times(api.MaxDepth, index(0)), Value: deep}, {What: api.Set, Way: times(api.MaxDepth, index(0))}}, nil, api.ErrLong}, {"below the deepest and away", deep, []api.Edit{{What: api.Add, Way: times(api.MaxDepth, index(0)), Value: deep}, {What: api.Drop, Way: times(api.MaxDepth, index(0))}}, deep, 0},
		{"a dict too full", sample.Fields(api.MaxItems), do("+a 1"), nil, api.ErrLong}, {"a dict too full between", sample.Fields(api.MaxItems), do("+z 1; +a 1; =z 2; -f10000; -f14095"), append(append(api.Dict{sample.Field("a", int64(1))}, sample.Fields(api.MaxItems)[1:api.MaxItems-1]...), sample.Field("z", int64(2))), 0}, {"a record too full", sample.Record("r", 1, sample.Fields(api.MaxItems)...), do("+a 1"), nil, api.ErrLong},
		{"a list that becomes full", sample.Items(api.MaxItems - 1), do("+[4095] nil"), sample.Items(api.MaxItems), 0}, {"a list too full", sample.Items(api.MaxItems), []api.Edit{{What: api.Add, Way: steps(index(api.MaxItems))}}, nil, api.ErrArg},
		{"as great as can be", val("[]"), []api.Edit{add("[0]", sample.Numbered(api.MaxNodes-2, nil))}, api.List{sample.Numbered(api.MaxNodes-2, nil)}, 0}, {"as deep as can be", val("[]"), []api.Edit{add("[0]", sample.Within(api.MaxDepth-1, nil))}, sample.Within(api.MaxDepth, nil), 0}, {"too much, then an error", val("[]"), append([]api.Edit{add("[0]", great)}, do("-[1]")...), nil, api.ErrIndex},
	} {
		v, e := path.Apply(x.v, x.edits)
		if e != x.why || e == api.OK && !value.Same(v, x.want) || e != api.OK && v != nil {
			t.Errorf("%s: %d, want %d", x.what, e, x.why)
		}
	}
}

// P4.12: the greatest values to one another and back.
func TestDiffOfTheGreatest(t *testing.T) {
	all := []any{sample.Items(api.MaxItems), sample.Fields(api.MaxItems), sample.Record("r", 1, sample.Fields(api.MaxItems)...), sample.Within(api.MaxDepth, int64(5)), sample.WithinFields(api.MaxDepth, int64(5)), sample.Numbered(api.MaxNodes-1, "last"), sample.Numbered(api.MaxNodes-1, 1.5), api.List{}, api.Dict{}, nil}
	other := sample.Fields(api.MaxItems)
	for i := range other {
		other[i].Name += "z"
	}
	full := sample.Items(api.MaxItems)
	for i := range full {
		full[i] = int64(i)
	}
	for i, a := range append(all, other, full) {
		for n, b := range append(all, other, full) {
			l, e := path.Diff(a, b)
			if e != api.OK || (len(l) == 0) != value.Same(a, b) {
				t.Fatal(i, n, len(l), e)
			}
			if v, e := path.Apply(a, l); e != api.OK || !value.Same(v, b) {
				t.Fatal(i, n, "not there:", e)
			}
		}
	}
}
