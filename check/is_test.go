package check_test

import (
	"math"
	"testing"

	"tenon/api"
	"tenon/check"
	"tenon/sample"
	"tenon/value"
)

// P7.1: which types can be: each of the eight kinds, each limit itself and one beyond it, each rule broken by itself.
func TestValid(t *testing.T) {
	for _, x := range append(sample.Types(), pool()...) {
		if !check.Valid(x) || !check.Valid(sample.Cluttered(x)) {
			t.Errorf("%s can be", show(x))
		}
	}
	for _, x := range sample.WrongTypes() {
		if check.Valid(x.T) {
			t.Errorf("%s can't be", x.Name)
		}
	}
	for _, x := range []struct {
		t    api.Type
		want bool
	}{
		{sample.ListsOf(api.MaxDepth, sample.AnyValue()), true}, {sample.ListsOf(api.MaxDepth+1, sample.AnyValue()), false},
		{classes(api.MaxNodes - 1), true}, {classes(api.MaxNodes), false}, {sample.ListOf(classes(api.MaxNodes - 2)), true}, {sample.ListOf(classes(api.MaxNodes - 1)), false},
		{sample.ManyFields(api.MaxItems), true}, {sample.ManyFields(api.MaxItems + 1), false},
		{sample.Only(sample.Within(api.MaxDepth, nil)), true}, {sample.ListsOf(api.MaxDepth, sample.Only(sample.Within(api.MaxDepth, nil))), true}, {sample.Union(sample.Only(sample.Numbered(api.MaxNodes-1, nil)), classes(api.MaxNodes-3)), true}, // a value's parts are no types
	} {
		if check.Valid(x.t) != x.want {
			t.Errorf("%s: want %v", show(x.t), x.want)
		}
	}
	for kind := -1; kind <= 12; kind++ {
		if check.Valid(sample.OfKind(kind)) != (api.KNil <= kind && kind <= api.KRecord) {
			t.Error("of kind", kind)
		}
		only := api.Type{Kind: api.TOnly, Only: api.Term{Kind: kind, Class: "a", Version: 1}}
		if check.Valid(only) != (api.KNil <= kind && kind <= api.KRecord) {
			t.Error("only of kind", kind)
		}
		whatever := api.Type{Kind: kind, Of: 1, Only: sample.Term(nil), Class: "a"}
		if want := kind >= api.TAny && kind <= api.TRecord && kind != api.TList && kind != api.TUnion; check.Valid(whatever) != want {
			t.Error("kind", kind, !want)
		}
	}
}

// P7.1: all values are of TAny, none of TNone, those of a kind of TKind.
func TestIsByKind(t *testing.T) {
	for _, v := range append(sample.Rich(), values()...) {
		mustBe(t, v, sample.AnyValue(), true, 0)
		mustBe(t, v, sample.NoValue(), false, 0)
		for kind := api.KNil; kind <= api.KRecord; kind++ {
			mustBe(t, v, sample.OfKind(kind), kind == value.Kind(v), 0)
		}
	}
}

// P7.1: of TOnly is the value that is the same, and no other one.
func TestIsOnly(t *testing.T) {
	all := sample.Rising()
	for i, v := range all {
		for j, w := range all {
			if ok, at, e := check.Is(v, sample.Only(w)); ok != (i == j) || at != 0 || e != api.OK {
				t.Errorf("%s is only %s: %v, %d, %d", told(v), told(w), ok, at, e)
			}
		}
		mustBe(t, v, sample.Only(v), true, 0)
	}
	mustBe(t, api.List(nil), sample.Only(api.List{}), true, 0)
	mustBe(t, api.Dict(nil), sample.Only(api.Dict{}), true, 0)
	mustBe(t, []byte(nil), sample.Only([]byte{}), true, 0)
	mustBe(t, nil, sample.Only(api.List{}), false, 0)
	mustBe(t, math.NaN(), sample.Only(math.NaN()), true, 0)
	mustBe(t, 0.0, sample.Only(sample.MinusZero()), false, 0)
	mustBe(t, int64(1), sample.Only(1.0), false, 0)
	mustBe(t, val("[[1], [2]]"), typ("is [[1], [3]]"), false, 0) // it shows at the value's own
	mustBe(t, val("{a: [1]}"), typ("is {a: [2]}"), false, 0)
	mustBe(t, val("[1, [1, 2]]"), typ("is [1, [1], 2]"), false, 0)
	mustBe(t, val("[1, 2]"), typ("[is 1]"), false, 2)
}

// isCase is a value and a type as texts, and the place at which it shows that the one is not of the other; -1: it is.
type isCase struct {
	v, t string
	at   int
}

func mustBeAll(t *testing.T, all []isCase) {
	t.Helper()
	for _, x := range all {
		mustBe(t, val(x.v), typ(x.t), x.at < 0, max(x.at, 0))
	}
}

// P7.1: of TList are lists, all whose values are of the part; it shows within the first one that is not.
func TestIsList(t *testing.T) {
	mustBeAll(t, []isCase{
		{"[]", "[int]", -1}, {"[]", "[none]", -1}, {"[]", "[any]", -1}, {"[nil]", "[any]", -1}, {"[nil]", "[none]", 1}, {"[1, 2, 3]", "[int]", -1},
		{`[1, "a"]`, "[int]", 2}, {`["a", 1]`, "[int]", 1}, {`[1, "a", "b"]`, "[int]", 2}, {`[1, 2, 3, "a"]`, "[int]", 4},
		{`[[1, 2], [3, "x"]]`, "[[int]]", 6}, {"[[], 1]", "[[int]]", 2}, {"[[[[1]]], [[[nil]]]]", "[[[[int]]]]", 8}, {"[[[[1]]], [[nil]]]", "[[[[int]]]]", 7}, {"[[1, [2, [3]]], nil]", "[list]", 7},
		{`[{a: [1, 2]}, {a: [1, "x"]}]`, "[{a: [int]}]", 8}, {`[a/1{x: [1, 2]}, b/1{}]`, "[of a]", 5},
		{"{}", "[int]", 0}, {"nil", "[any]", 0}, {"1", "[int]", 0}, {`"a"`, "[any]", 0}, {"#00", "[any]", 0}, {"a/1{}", "[any]", 0}, {"{a: 1}", "[any]", 0},
	})
}

// P7.1: of TDict are dicts with the named fields, those that may be missing or not, and others, if it is open; it shows name by name as they rise.
func TestIsDict(t *testing.T) {
	mustBeAll(t, []isCase{
		{"{}", "{}", -1}, {"{}", "{...}", -1}, {"{a: 1}", "{}", 0}, {"{a: 1}", "{...}", -1}, {"{}", "{a: any}", 0}, {"{}", "{a?: any}", -1}, {"{}", "{a?: none}", -1}, {"{a: 1}", "{a?: none}", 1},
		{`{a: 1, b: "x"}`, "{a: int, b: text}", -1}, {"{a: 1}", "{a: int, b: text}", 0}, {"{a: 1}", "{a: int, b?: text}", -1}, {`{b: "x"}`, "{a: int, b: text}", 0}, {`{b: "x"}`, "{a?: int, b: text}", -1},
		{`{a: "x"}`, "{a: int, b: text}", 1}, {"{b: 1}", "{a: int, b: text}", 0}, {"{b: 1}", "{a?: int, b: text}", 1}, {"{a: 1, b: 2}", "{a: int, b: text}", 2}, {`{a: "x", b: 2}`, "{a: int, b: text}", 1},
		{`{a: 1, b: "x", c: 3}`, "{a: int, b: text}", 0}, {`{a: 1, b: "x", c: 3}`, "{a: int, b: text, ...}", -1}, {"{a: 1, b: 2, c: 3}", "{a: int, b: text}", 2}, {`{a: "x", aa: 1}`, "{a: int}", 1}, {`{a: 1, aa: 1, b: 2}`, "{a: int, b: text}", 0},
		{`{a: 1, aa: [1, 2], b: 2}`, "{a: int, b: text, ...}", 5}, {`{a: [1, [2]], b: {x: 1}, c: [1, nil]}`, "{c: [int], ...}", 9}, {`{b: 1}`, "{a: int, ...}", 0}, {`{b: [1], c: 1}`, "{a?: int, c: text, ...}", 3},
		{`{a: nil, b: [1, "x", 2]}`, "{a: any, b: [int]}", 4}, {`{a: {a: {a: 1}}}`, "{a: {a: {a: text}}}", 3}, {`{a: {a: {b: 1}}}`, "{a: {a: {a: text}}}", 2}, {`{a: {}, b: {a: 1, b: 2}}`, "{a: {}, b: {a: int}}", 2},
		{"[]", "{}", 0}, {"nil", "{a?: any}", 0}, {"a/1{}", "{}", 0}, {"a/1{a: 1}", "{a: int, ...}", 0}, {"[{a: 1}]", "{a: int}", 0},
	})
}

// P7.1: of TUnion is what is of a part, of TRecord records of the class; else it shows at the value's own.
func TestIsUnionAndRecord(t *testing.T) {
	mustBeAll(t, []isCase{
		{"1", "int | text", -1}, {`"a"`, "int | text", -1}, {"nil", "int | text", 0}, {"nil", "int | (text | (bool | nil))", -1}, {"@1", "(int | text) | (bool | nil)", 0}, {"1", "none | none", 0}, {"1", "none | any", -1},
		{`[1, "x"]`, "[int] | [text]", 0}, {`[1, "x"]`, "[int | text]", -1}, {"[1, nil]", "[int | text]", 2}, {`[[1, "x"]]`, "[[int] | [text]]", 1}, {`[[1], [1, "x"]]`, "[[int] | [text]]", 3}, {"{a: 1}", "{a: text} | {b: int}", 0}, {"{x: {a: 1}}", "{x: {a: text} | {b: int}}", 1},
		{"a/1{}", "of a", -1}, {"a/7{x: [1]}", "of a", -1}, {"b/1{}", "of a", 0}, {"aa/1{}", "of a", 0}, {"{a: 1}", "of a", 0}, {"nil", "of a", 0}, {`"a"`, "of a", 0}, {"[a/1{}, b/2{x: nil}, nil]", "[of a | of b]", 4},
	})
}

// P7.1: Is at the limits.
func TestIsLimits(t *testing.T) {
	mustBe(t, sample.Within(api.MaxDepth, int64(5)), sample.ListsOf(api.MaxDepth, sample.OfKind(api.KInt)), true, 0)
	mustBe(t, sample.Within(api.MaxDepth, int64(5)), sample.ListsOf(api.MaxDepth, sample.OfKind(api.KText)), false, 63)
	mustBe(t, sample.Within(api.MaxDepth, int64(5)), sample.ListsOf(api.MaxDepth-1, sample.OfKind(api.KText)), false, 62)
	mustBe(t, sample.Numbered(api.MaxNodes-1, "last"), typ("[[nil] | text]"), true, 0)
	mustBe(t, sample.Numbered(api.MaxNodes-1, "last"), typ("[[nil] | nil]"), false, api.MaxNodes-1)
	mustBe(t, sample.Record("c16382", 1), classes(api.MaxNodes-1), true, 0)
	mustBe(t, sample.Record("c16383", 1), classes(api.MaxNodes-1), false, 0)
	many, fields := sample.ManyFields(api.MaxItems), sample.Fields(api.MaxItems)
	mustBe(t, fields, many, true, 0)
	mustBe(t, fields[1:], many, true, 0) // every third one may be missing
	mustBe(t, fields[2:], many, false, 0)
	mustBe(t, sample.Record("a", 1, fields...), sample.OfClass("a"), true, 0)
	many.Parts[api.MaxItems-1] = sample.NoValue()
	mustBe(t, fields, many, false, api.MaxItems)
	if ok, at, e := check.Is(fields, sample.ManyFields(api.MaxItems+1)); ok || at != 0 || e != api.ErrType {
		t.Error(ok, at, e)
	}
}

// P7.1: many values that stand alone, great ones, are held against many small ones in reasonable time.
func TestIsGreatOnly(t *testing.T) {
	u := api.Type{Kind: api.TUnion}
	for i := range 60 {
		u.Parts = append(u.Parts, sample.Only(sample.Numbered(api.MaxNodes-1, int64(i))))
	}
	l := make(api.List, api.MaxItems)
	for i := range l {
		l[i] = api.List{}
	}
	if ok, at, e := check.Is(l, sample.ListOf(u)); ok || at != 1 || e != api.OK {
		t.Error(ok, at, e)
	}
	if got, ok, e := check.Narrow(l, sample.ListOf(u)); !ok || !value.Same(got, api.List{}) || e != api.OK {
		t.Error(told(got), ok, e)
	}
	if ok, at, e := check.Is(sample.Numbered(api.MaxNodes-1, int64(59)), u); !ok || at != 0 || e != api.OK {
		t.Error(ok, at, e)
	}
}

// aliens is values of no kind, of types that Go can't compare, too.
func aliens() []any {
	return []any{7, 'a', uint64(1), float32(1), []any{}, map[string]any{}, func() {}, make(chan int), struct{}{}, [1]any{func() {}}, api.Record{Class: "a", Version: 1}, (*api.List)(nil), api.OK, api.Type{}, &api.Type{}}
}

// wrongs is all that can't be a value.
func wrongs() []sample.Wrong {
	l := sample.Wrongs()
	for _, alien := range aliens() {
		l = append(l, sample.Wrong{Name: "alien", V: alien, Why: api.ErrKind}, sample.Wrong{Name: "alien within", V: api.Dict{sample.Field("a", api.List{alien})}, Why: api.ErrKind})
	}
	return l
}

// P7.1, P7.4, P7.5: the error of a value that can't be, ahead of that of a type that can't be, whatever the type.
func TestWrongValues(t *testing.T) {
	for _, x := range wrongs() {
		for _, s := range []api.Type{sample.AnyValue(), sample.NoValue(), typ("[any]"), typ("{...}"), typ("any | none"), {}, {Kind: api.TList}} {
			if ok, at, e := check.Is(x.V, s); ok || at != 0 || e != x.Why {
				t.Errorf("Is, %s: %v, %d, %d, want %d", x.Name, ok, at, e, x.Why)
			}
			if got, ok, e := check.Narrow(x.V, s); ok || got != nil || e != x.Why {
				t.Errorf("Narrow, %s: %v, %v, %d, want %d", x.Name, got, ok, e, x.Why)
			}
		}
		if got, e := check.TypeOf(x.V); plain(got) != plain(api.Type{}) || e != x.Why {
			t.Errorf("TypeOf, %s: %s, %d, want %d", x.Name, show(got), e, x.Why)
		}
	}
}

// P7.1, P7.2, P7.3, P7.5: ErrType of a type that can't be, on either side.
func TestWrongTypes(t *testing.T) {
	for _, x := range sample.WrongTypes() {
		for _, v := range []any{nil, val("[1]"), val("{a: 1}"), val("a/1{}")} {
			if ok, at, e := check.Is(v, x.T); ok || at != 0 || e != api.ErrType {
				t.Errorf("Is, %s: %v, %d, %d", x.Name, ok, at, e)
			}
			if got, ok, e := check.Narrow(v, x.T); ok || got != nil || e != api.ErrType {
				t.Errorf("Narrow, %s: %v, %v, %d", x.Name, got, ok, e)
			}
		}
		for _, l := range [][2]api.Type{{x.T, sample.AnyValue()}, {sample.NoValue(), x.T}, {sample.AnyValue(), x.T}, {x.T, sample.NoValue()}, {x.T, x.T}} {
			if ok, e := check.Sub(l[0], l[1]); ok || e != api.ErrType {
				t.Errorf("Sub, %s: %v, %d", x.Name, ok, e)
			}
			if got, e := check.Either(l[0], l[1]); plain(got) != plain(api.Type{}) || e != api.ErrType {
				t.Errorf("Either, %s: %s, %d", x.Name, show(got), e)
			}
		}
	}
}
