package check_test

import (
	"fmt"
	"testing"

	"tenon/api"
	"tenon/sample"
	"tenon/value"
)

// P7.4: of each value its type.
func TestTypeOf(t *testing.T) {
	for _, x := range [][2]string{
		{"nil", "nil"}, {"true", "bool"}, {"1", "int"}, {"0x1.8p+00", "float"}, {`"a"`, "text"}, {"#00", "bytes"}, {"@7", "ref"}, {"a/3{b: [1]}", "of a"},
		{"[]", "[none]"}, {"[1]", "[int]"}, {"[1, 2]", "[int]"}, {"[nil]", "[nil]"}, {`[1, "a"]`, "[int | text]"}, {`["a", 1]`, "[text | int]"}, {`[1, "a", 2, nil, "b"]`, "[int | text | nil]"}, {"[a/1{}, b/1{}, a/2{}]", "[of a | of b]"},
		{"[[]]", "[[none]]"}, {"[[], [1]]", "[[int]]"}, {"[[1], []]", "[[int]]"}, {`[[1], ["a"]]`, "[[int] | [text]]"}, {`[[1], ["a"], [1, "a"]]`, "[[int | text]]"}, {`[[1, "a"], [1], ["a"]]`, "[[int | text]]"}, {`[[1, "a"], ["a", 1]]`, "[[text | int]]"}, {`[[1], "a", [2, nil]]`, "[[int] | text | [int | nil]]"}, {`[[1, nil], nil, [2], 3]`, "[[int | nil] | nil | int]"}, {`[[1], [nil], [], [1, nil], ["a"]]`, "[[int | nil] | [text]]"},
		{"{}", "{}"}, {"{a: 1}", "{a: int}"}, {`{a: nil, b: [1, nil], c: {d: {}}}`, "{a: nil, b: [int | nil], c: {d: {}}}"}, {"[{}, {a: 1}]", "[{} | {a: int}]"}, {"[{a: []}, {a: [1]}]", "[{a: [int]}]"}, {"[{a: 1}, {a: 2}, {a: nil}]", "[{a: int} | {a: nil}]"}, {"[{a: 1}, a/1{a: 1}]", "[{a: int} | of a]"},
	} {
		mustBeOf(t, val(x[0]), typ(x[1]))
	}
	for _, v := range sample.Rising() {
		if kind := value.Kind(v); kind < api.KList {
			mustBeOf(t, v, sample.OfKind(kind))
		}
	}
	mustBeOf(t, api.List(nil), typ("[none]"))
	mustBeOf(t, api.Dict(nil), typ("{}"))
	mustBeOf(t, sample.Items(api.MaxItems), typ("[nil]"))
	mustBeOf(t, sample.Record("c", 1, sample.Fields(api.MaxItems)...), typ("of c"))
	many := sample.ManyFields(api.MaxItems)
	for i := range many.Parts {
		many.Lacks[i], many.Parts[i] = false, sample.OfKind(api.KNil)
	}
	mustBeOf(t, sample.Fields(api.MaxItems), many)
}

// P7.4: TAny stands where what comes would lie too deep: a list without values lies one deeper than its value.
func TestTypeOfTooDeep(t *testing.T) {
	list, none, one := api.List{}, sample.NoValue(), sample.OfKind(api.KInt)
	mustBeOf(t, sample.Within(api.MaxDepth, int64(1)), sample.ListsOf(api.MaxDepth, one))
	mustBeOf(t, sample.Within(api.MaxDepth, api.Dict{}), sample.ListsOf(api.MaxDepth, typ("{}")))
	mustBeOf(t, sample.Within(api.MaxDepth-1, list), sample.ListsOf(api.MaxDepth, none))
	mustBeOf(t, sample.Within(api.MaxDepth, list), sample.AnyValue())
	field := func(v any) api.Dict { return api.Dict{sample.Field("a", int64(1)), sample.Field("b", v)} }
	mustBeOf(t, field(sample.Within(api.MaxDepth-2, list)), sample.DictOf("a", one, "b", sample.ListsOf(api.MaxDepth-1, none)))
	mustBeOf(t, field(sample.Within(api.MaxDepth-1, list)), sample.AnyValue())
	mustBeOf(t, sample.Record("a", 1, field(sample.Within(api.MaxDepth-1, list))...), typ("of a"))

	behind := func(depth int) api.List { return api.List{int64(1), sample.Within(depth, list)} }
	mustBeOf(t, behind(api.MaxDepth-3), sample.ListOf(sample.Union(one, sample.ListsOf(api.MaxDepth-2, none))))
	mustBeOf(t, behind(api.MaxDepth-2), sample.AnyValue())                // the union can be, the list's type can't
	mustBeOf(t, behind(api.MaxDepth-1), sample.ListOf(sample.AnyValue())) // Either can't be
	mustBeOf(t, append(behind(api.MaxDepth-1), nil, "a"), sample.ListOf(sample.AnyValue()))
	mustBeOf(t, append(api.List{nil}, behind(api.MaxDepth-1)...), sample.ListOf(sample.AnyValue()))

	var v any = int64(1) // lists and unions by turns: the 32nd list from within can't be
	x := one
	for i := range api.MaxDepth - 1 {
		v, x = api.List{"a", v}, sample.ListOf(sample.Union(sample.OfKind(api.KText), x))
		if i == 31 {
			x = sample.AnyValue()
		}
		if i == 32 {
			x = sample.ListOf(sample.AnyValue())
		}
		mustBeOf(t, v, x)
	}
}

// P7.4: TAny stands where what comes would have too many types, and only there.
func TestTypeOfTooMany(t *testing.T) {
	pair := val("{a: [], b: []}") // five types
	of := typ("{a: [none], b: [none]}")
	var d api.Dict
	want := api.Type{Kind: api.TDict}
	add := func(v any, x api.Type) {
		name := fmt.Sprintf("f%d", 10000+len(d))
		d = append(d, sample.Field(name, v))
		want.Names, want.Lacks, want.Parts = append(want.Names, name), append(want.Lacks, false), append(want.Parts, x)
	}
	for range (api.MaxNodes - 1) / 5 {
		add(pair, of)
	}
	add(api.List{}, typ("[none]"))
	add(nil, typ("nil"))
	mustBeOf(t, d, want)
	add(nil, typ("nil"))
	mustBeOf(t, d, sample.AnyValue())
	mustBeOf(t, api.Dict{sample.Field("a", int64(1)), sample.Field("b", d)}, typ("{a: int, b: any}"))
	mustBeOf(t, api.List{int64(1), d}, typ("[any]"))
	mustBeOf(t, api.List{sample.Record("a", 1), api.List{d}}, typ("[of a | [any]]"))
	mustBeOf(t, sample.Record("a", 1, d...), typ("of a"))
}

// P7.4: a list of as many types as there can be, and of more: Either can't be, so its values may be all.
func TestTypeOfManyUnlike(t *testing.T) {
	unlike := func(n int) (api.List, api.Type) {
		l, u := api.List{}, api.Type{Kind: api.TUnion}
		for i := range n {
			name := fmt.Sprintf("f%d", 10000+i)
			l = append(l, api.Dict{sample.Field("a", api.List{}), sample.Field("b", api.List{}), sample.Field(name, nil)})
			u.Parts = append(u.Parts, sample.DictOf("a", typ("[none]"), "b", typ("[none]"), name, typ("nil"))) // six types
		}
		return l, u
	}
	l, u := unlike((api.MaxNodes - 2) / 6)
	mustBeOf(t, l, sample.ListOf(u)) // two types are left
	more := append(append(api.List{}, l...), int64(1), true)
	mustBeOf(t, more, sample.ListOf(sample.Union(append(u.Parts, typ("int"), typ("bool"))...)))
	mustBeOf(t, append(append(api.List{}, more...), 1.5), sample.AnyValue()) // the union can be, the list's type can't
	mustBeOf(t, append(append(api.List{}, more...), 1.5, "a"), typ("[any]"))
	l, _ = unlike(api.MaxItems - 1)
	mustBeOf(t, l, typ("[any]"))
	mustBeOf(t, api.List{"a", l}, typ("[text | [any]]"))
}
