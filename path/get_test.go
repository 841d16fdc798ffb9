package path_test

import (
	"slices"
	"testing"

	"tenon/api"
	"tenon/path"
	"tenon/sample"
	"tenon/value"
)

// mixed holds each kind, with parts in lists, dicts and records.
const mixed = `{a: [1, 2, [nil, {x: "y"}]], b: nil, c: box/2{bytes: #00ff, list: [], ref: @7}, d: {}, e: -0x1.8p+00}`

// P4.2: what lies at a way.
func TestGet(t *testing.T) {
	for _, x := range []struct {
		v, way, want string
		why          api.Errno
	}{
		{"{a: [1, 2]}", "a[1]", "2", 0}, {"{a: [1, 2]}", "a[2]", "", api.ErrIndex}, {"{a: [1, 2]}", "a.b", "", api.ErrInto}, {"{a: [1, 2]}", "b", "", api.ErrNone}, // the chapter's own

		{mixed, "", mixed, 0}, {"nil", "", "nil", 0}, {"7", "", "7", 0}, {"[]", "", "[]", 0}, {"{}", "", "{}", 0},
		{mixed, "a", `[1, 2, [nil, {x: "y"}]]`, 0}, {mixed, "a[0]", "1", 0}, {mixed, "a[2]", `[nil, {x: "y"}]`, 0}, {mixed, "a[2][0]", "nil", 0}, {mixed, "a[2][1].x", `"y"`, 0}, {mixed, "b", "nil", 0}, {mixed, "c", "box/2{bytes: #00ff, list: [], ref: @7}", 0}, {mixed, "c.bytes", "#00ff", 0}, {mixed, "c.list", "[]", 0}, {mixed, "c.ref", "@7", 0}, {mixed, "d", "{}", 0}, {mixed, "e", "-0x1.8p+00", 0}, {"[[[5]]]", "[0][0][0]", "5", 0},

		{mixed, "a[3]", "", api.ErrIndex}, {mixed, "a[4095]", "", api.ErrIndex}, {mixed, "c.list[0]", "", api.ErrIndex}, {"[]", "[0]", "", api.ErrIndex}, {"[1]", "[1]", "", api.ErrIndex},
		{mixed, "f", "", api.ErrNone}, {mixed, "a0", "", api.ErrNone}, {mixed, "c.a", "", api.ErrNone}, {mixed, "c.z", "", api.ErrNone}, {mixed, "c.class", "", api.ErrNone}, {mixed, "d.a", "", api.ErrNone}, {mixed, "a[2][1].y", "", api.ErrNone}, {"{b: 1}", "a", "", api.ErrNone}, {"{b: 1}", "bb", "", api.ErrNone}, {"{bb: 1}", "b", "", api.ErrNone},
		{mixed, "a.x", "", api.ErrInto}, {mixed, "[0]", "", api.ErrInto}, {mixed, "c[0]", "", api.ErrInto}, {mixed, "d[0]", "", api.ErrInto}, {mixed, "b.a", "", api.ErrInto}, {mixed, "b[0]", "", api.ErrInto}, {mixed, "e[0]", "", api.ErrInto}, {mixed, "e.a", "", api.ErrInto}, {mixed, "c.bytes[0]", "", api.ErrInto}, {mixed, "c.ref.a", "", api.ErrInto}, {mixed, "a[2][1].x[0]", "", api.ErrInto}, {"[]", "a", "", api.ErrInto}, {`"text"`, "[0]", "", api.ErrInto}, {"true", "a", "", api.ErrInto}, {"7", "[0]", "", api.ErrInto},

		{mixed, "b.a[0]", "", api.ErrInto}, {mixed, "f.a[0]", "", api.ErrNone}, {mixed, "a[3].a[0]", "", api.ErrIndex}, {mixed, "a.x[9]", "", api.ErrInto}, {mixed, "c.z[0].q", "", api.ErrNone}, // at the first step that can't be gone
	} {
		v, e := path.Get(val(x.v), way(x.way))
		answers(t, x.v+" at "+x.way, v, e, x.want, x.why)
	}
}

// P4.3: the value with another one there.
func TestPut(t *testing.T) {
	for _, x := range []struct {
		v, way, x, want string
		why             api.Errno
	}{
		{"{a: [1, 2]}", "a[2]", "3", "{a: [1, 2, 3]}", 0}, {"{a: [1, 2]}", "b", "nil", "{a: [1, 2], b: nil}", 0}, {"{a: [1, 2]}", "a[3]", "3", "", api.ErrIndex}, // the chapter's own

		{mixed, "", "7", "7", 0}, {"7", "", mixed, mixed, 0}, {"nil", "", "nil", "nil", 0},
		{"{a: [1, 2]}", "a[0]", "[]", "{a: [[], 2]}", 0}, {"{a: [1, 2]}", "a[1]", "5", "{a: [1, 5]}", 0}, {"{a: [1, 2]}", "a", "5", "{a: 5}", 0}, {"[]", "[0]", "5", "[5]", 0}, {"[[1], [2]]", "[1][1]", "5", "[[1], [2, 5]]", 0}, {"[[1], [2]]", "[2]", "5", "[[1], [2], 5]", 0}, {"[nil]", "[0]", "nil", "[nil]", 0},
		{"{}", "a", "5", "{a: 5}", 0}, {"{b: 1, d: 2}", "a", "5", "{a: 5, b: 1, d: 2}", 0}, {"{b: 1, d: 2}", "b", "5", "{b: 5, d: 2}", 0}, {"{b: 1, d: 2}", "c", "5", "{b: 1, c: 5, d: 2}", 0}, {"{b: 1, d: 2}", "d", "5", "{b: 1, d: 5}", 0}, {"{b: 1, d: 2}", "e", "5", "{b: 1, d: 2, e: 5}", 0}, {"{b: 1, d: 2}", "b0", "5", "{b: 1, b0: 5, d: 2}", 0}, {"{b: 1, bb: 2}", "b_", "5", "{b: 1, b_: 5, bb: 2}", 0},
		{"box/2{b: 1}", "a", "5", "box/2{a: 5, b: 1}", 0}, {"box/2{b: 1}", "b", "box/1{}", "box/2{b: box/1{}}", 0}, {"box/2{b: 1}", "c", "5", "box/2{b: 1, c: 5}", 0}, {"box/2{}", "c", "5", "box/2{c: 5}", 0}, {"[box/2{a: box/3{}}]", "[0].a.q", "5", "[box/2{a: box/3{q: 5}}]", 0},

		{"[1]", "[2]", "5", "", api.ErrIndex}, {"[1]", "[4095]", "5", "", api.ErrIndex}, {"[]", "[1]", "5", "", api.ErrIndex}, {"[1]", "[1][0]", "5", "", api.ErrIndex}, {"[[]]", "[1].a", "5", "", api.ErrIndex},
		{"{}", "a.b", "5", "", api.ErrNone}, {"{}", "a[0]", "5", "", api.ErrNone}, {"box/2{b: {}}", "b.c.d", "5", "", api.ErrNone},
		{"1", "a", "5", "", api.ErrInto}, {"nil", "[0]", "5", "", api.ErrInto}, {"[]", "a", "5", "", api.ErrInto}, {"{}", "[0]", "5", "", api.ErrInto}, {"box/1{}", "[0]", "5", "", api.ErrInto}, {"[1]", "[0].a", "5", "", api.ErrInto}, {"#00", "[0]", "5", "", api.ErrInto}, {"#00", "[1]", "5", "", api.ErrInto}, {`"a"`, "[1]", "5", "", api.ErrInto}, {"[#]", "[0][0].a", "5", "", api.ErrInto},
	} {
		v, e := path.Put(val(x.v), way(x.way), val(x.x))
		answers(t, x.v+" with "+x.x+" at "+x.way, v, e, x.want, x.why)
	}
}

// P4.3: what comes of a Put may be too deep or too great, and just not.
func TestPutTooMuch(t *testing.T) {
	nodes := sample.Numbered(api.MaxNodes-2, nil) // one part more has room
	last := len(nodes)
	for _, x := range []struct {
		what string
		v    any
		way  []api.Step
		x    any
		why  api.Errno
	}{
		{"a list of all items, the last one set", sample.Items(api.MaxItems), steps(index(api.MaxItems - 1)), true, 0}, {"a list that becomes full", sample.Items(api.MaxItems - 1), steps(index(api.MaxItems - 1)), true, 0}, {"a full list", sample.Items(api.MaxItems), steps(index(api.MaxItems)), true, api.ErrArg},
		{"a dict of all fields, one set", sample.Fields(api.MaxItems), steps(name("f10000")), true, 0}, {"a dict that becomes full", sample.Fields(api.MaxItems - 1), steps(name("z")), true, 0}, {"a full dict", sample.Fields(api.MaxItems), steps(name("z")), true, api.ErrLong}, {"a full record", sample.Record("r", 1, sample.Fields(api.MaxItems)...), steps(name("a")), true, api.ErrLong},
		{"as deep as can be", sample.Within(api.MaxDepth, nil), times(api.MaxDepth-1, index(0)), "x", 0}, {"one deeper", sample.Within(api.MaxDepth, nil), times(api.MaxDepth-1, index(0)), api.List{"x"}, api.ErrLong}, {"below the deepest", sample.Within(api.MaxDepth, api.List{}), times(api.MaxDepth, index(0)), "x", api.ErrLong}, {"below the deepest, a field", sample.WithinFields(api.MaxDepth, api.Dict{}), times(api.MaxDepth, name("a")), "x", api.ErrLong}, {"the deepest under a step", api.List{nil}, steps(index(0)), sample.Within(api.MaxDepth-1, nil), 0}, {"too deep under a step", api.List{nil}, steps(index(0)), sample.Within(api.MaxDepth, nil), api.ErrLong},
		{"as many as can be", nodes, steps(index(last)), true, 0}, {"one too many", nodes, steps(index(last)), api.List{true}, api.ErrLong}, {"as many as can be, in a list within", nodes, steps(index(last-1), index(0)), true, api.ErrInto}, {"the greatest in another's place", sample.Numbered(api.MaxNodes-1, nil), nil, sample.Numbered(api.MaxNodes-1, true), 0}, {"the greatest under a step", api.List{}, steps(index(0)), sample.Numbered(api.MaxNodes-1, true), api.ErrLong}, {"the greatest less one", api.List{}, steps(index(0)), sample.Numbered(api.MaxNodes-2, true), 0},
	} {
		v, e := path.Put(x.v, x.way, x.x)
		if e != x.why || (e != api.OK) != (v == nil) {
			t.Errorf("%s: %d, want %d", x.what, e, x.why)
			continue
		}
		if got, e := path.Get(v, x.way); x.why == api.OK && (e != api.OK || !value.Same(got, x.x)) {
			t.Errorf("%s: what was put is not there: %d", x.what, e)
		}
	}
}

// P4.4: the value without what lies there.
func TestDelete(t *testing.T) {
	for _, x := range []struct {
		v, way, want string
		why          api.Errno
	}{
		{"{a: [1, 2]}", "a[0]", "{a: [2]}", 0}, // the chapter's own
		{"{a: [1, 2]}", "a[1]", "{a: [1]}", 0}, {"{a: [1, 2]}", "a", "{}", 0}, {"[1, 2, 3]", "[1]", "[1, 3]", 0}, {"[1, 2, 3]", "[0]", "[2, 3]", 0}, {"[1, 2, 3]", "[2]", "[1, 2]", 0}, {"[1]", "[0]", "[]", 0}, {"[[1], 2]", "[0]", "[2]", 0}, {"{a: 1, b: 2, c: 3}", "b", "{a: 1, c: 3}", 0}, {"{a: 1, b: 2, c: 3}", "a", "{b: 2, c: 3}", 0}, {"{a: 1, b: 2, c: 3}", "c", "{a: 1, b: 2}", 0}, {"box/2{a: 1, b: 2}", "a", "box/2{b: 2}", 0}, {"box/2{a: 1}", "a", "box/2{}", 0}, {"[{a: box/2{b: [5]}}]", "[0].a.b[0]", "[{a: box/2{b: []}}]", 0}, {"[{a: box/2{b: [5]}}]", "[0].a.b", "[{a: box/2{}}]", 0}, {"[nil]", "[0]", "[]", 0},

		{"nil", "", "", api.ErrArg}, {mixed, "", "", api.ErrArg}, {"[]", "", "", api.ErrArg},
		{"[1]", "[1]", "", api.ErrIndex}, {"[]", "[0]", "", api.ErrIndex}, {"[1]", "[4095]", "", api.ErrIndex}, {"{}", "a", "", api.ErrNone}, {"{b: 1}", "a", "", api.ErrNone}, {"box/1{b: 1}", "c", "", api.ErrNone}, {"{}", "[0]", "", api.ErrInto}, {"[1]", "a", "", api.ErrInto}, {"1", "a", "", api.ErrInto}, {"#00", "[0]", "", api.ErrInto}, {"[1]", "[1].a", "", api.ErrIndex}, {"[1]", "[0].a", "", api.ErrInto}, {"{a: {}}", "b.c", "", api.ErrNone}, {"{a: {}}", "a.c", "", api.ErrNone},
	} {
		v, e := path.Delete(val(x.v), way(x.way))
		answers(t, x.v+" without "+x.way, v, e, x.want, x.why)
	}
}

// P4.2 to P4.4, section 4.2: of all calls with a way, the value's error comes first, then the way's, then what is put's, then what lies there.
func TestFirstErrors(t *testing.T) {
	for _, w := range sample.Wrongs() {
		for _, l := range [][]api.Step{nil, steps(name("a")), steps(index(0)), steps(name("A")), times(api.MaxDepth+1, index(0))} {
			v, e := path.Get(w.V, l)
			answers(t, "Get, "+w.Name, v, e, "", w.Why)
			v, e = path.Put(w.V, l, 7)
			answers(t, "Put, "+w.Name, v, e, "", w.Why)
			v, e = path.Delete(w.V, l)
			answers(t, "Delete, "+w.Name, v, e, "", w.Why)
		}
		for _, whole := range []any{nil, api.List{}, api.Dict{}, val(mixed)} {
			for _, l := range [][]api.Step{nil, steps(name("zz")), steps(index(9)), steps(name("b"), name("b"))} {
				v, e := path.Put(whole, l, w.V)
				answers(t, "Put of "+w.Name, v, e, "", w.Why)
			}
		}
	}
	for i, w := range badWays() {
		for _, whole := range []any{nil, api.List{}, api.Dict{}, val(mixed), sample.Within(api.MaxDepth, nil)} {
			v, e := path.Get(whole, w.way)
			answers(t, "Get, bad way", v, e, "", w.why)
			v, e = path.Put(whole, w.way, sample.Nobody())
			answers(t, "Put, bad way", v, e, "", w.why)
			v, e = path.Delete(whole, w.way)
			answers(t, "Delete, bad way", v, e, "", w.why)
			if t.Failed() {
				t.Fatal(i, w.way)
			}
		}
	}
}

// P4.2, P4.3: the greatest values, and the longest way.
func TestFar(t *testing.T) {
	if v, e := path.Get(sample.Items(api.MaxItems), steps(index(api.MaxItems-1))); v != nil || e != api.OK {
		t.Error("the last of all items:", v, e)
	}
	deep := sample.Within(api.MaxDepth, int64(5))
	if v, e := path.Get(deep, times(api.MaxDepth-1, index(0))); v != int64(5) || e != api.OK {
		t.Error("the deepest:", v, e)
	}
	if v, e := path.Get(deep, times(api.MaxDepth, index(0))); v != nil || e != api.ErrInto {
		t.Error("below the deepest:", v, e)
	}
	if v, e := path.Get(sample.Within(api.MaxDepth, api.List{}), times(api.MaxDepth, index(0))); v != nil || e != api.ErrIndex {
		t.Error("in the deepest list:", v, e)
	}
	if v, e := path.Delete(deep, times(api.MaxDepth-1, index(0))); e != api.OK || !value.Same(v, sample.Within(api.MaxDepth-1, api.List{})) {
		t.Error("the deepest gone:", e)
	}
	all := sample.Fields(api.MaxItems)
	for _, i := range []int{0, 1, 2047, 2048, 4094, 4095} {
		v, e := path.Delete(all, steps(name(all[i].Name)))
		if e != api.OK || !value.Same(v, slices.Delete(slices.Clone(all), i, i+1)) {
			t.Error("one of all fields gone:", i, e)
		}
		if v, e = path.Put(v, steps(name(all[i].Name)), nil); e != api.OK || !value.Same(v, all) {
			t.Error("and back:", i, e)
		}
	}
}
