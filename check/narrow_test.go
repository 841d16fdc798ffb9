package check_test

import (
	"testing"

	"tenon/api"
	"tenon/sample"
)

// P7.5: a value that is of the type stays as it is.
func TestNarrowSame(t *testing.T) {
	for _, v := range append(sample.Rich(), values()...) {
		mustNarrow(t, v, sample.AnyValue(), v)
		mustNarrow(t, v, sample.Only(v), v)
		mustLose(t, v, sample.NoValue())
	}
	for _, x := range [][2]string{
		{"1", "int"}, {"nil", "nil"}, {"[]", "[none]"}, {`[1, "a"]`, "[int | text]"}, {`[1, "a"]`, "[int] | [text] | list"}, {`[1, "a"]`, `[int] | is [1, "a"]`}, {`{a: 1, b: [2]}`, "{a: int} | {...}"}, {`{a: 1, b: [2]}`, "{b: [int], ...}"}, {"{}", "{a?: none}"}, {"a/1{b: 1}", "of a"}, {`{a: [1, "a"]}`, "{a: [int]} | {a: [text]} | {a: list}"}, {`[[1], ["a"]]`, "[[int] | [text]]"},
	} {
		mustNarrow(t, val(x[0]), typ(x[1]), val(x[0]))
	}
}

// P7.5: of lists and dicts what is of the type, of unions the first part that has something.
func TestNarrow(t *testing.T) {
	for _, x := range [][3]string{
		{`[1, "a"]`, "[int]", "[1]"}, {`["a", 1, "b", 2, nil]`, "[int]", "[1, 2]"}, {`["a"]`, "[int]", "[]"}, {"[1]", "[none]", "[]"}, {`[1, "a", nil]`, "[text | nil]", `["a", nil]`}, {"[1, 2, 1]", "[is 1]", "[1, 1]"}, {"[a/1{}, b/1{x: 1}, a/2{}]", "[of a]", "[a/1{}, a/2{}]"},
		{`[[1, "a"], "b", ["c"], []]`, "[[int]]", "[[1], [], []]"}, {`[[[1, "a"]], [["b"], 2]]`, "[[[int]]]", "[[[1]], [[]]]"}, {`[{a: 1, b: 2}, {b: 1}, {a: "x"}]`, "[{a: int}]", "[{a: 1}]"}, {`[1, [1, "a"], {a: [1, "a"], b: 1}]`, "[[text] | {a: [int]}]", `[["a"], {a: [1]}]`},
		{`{a: 1, b: "x"}`, "{a: int}", "{a: 1}"}, {`{a: 1, b: "x"}`, "{}", "{}"}, {`{a: 1, b: "x"}`, "{b?: int}", "{}"}, {`{a: 1, b: "x"}`, "{a: int, b?: int}", "{a: 1}"}, {`{a: 1, b: "x", c: nil}`, "{a?: text, c: nil}", "{c: nil}"}, {"{b: 1, d: 2}", "{a?: int, b: int, c?: int}", "{b: 1}"},
		{`{a: [1, "x"], b: {c: 1, d: 2}}`, "{a: [int], b: {c: int}}", "{a: [1], b: {c: 1}}"}, {`{a: ["x"]}`, "{a: [int]}", "{a: []}"}, {`{a: {b: 1}}`, "{a?: {b: text}}", "{}"}, {`{a: {b: 1}}`, "{a: {b?: text}}", "{a: {}}"},
		{`{a: "x", b: [1, "y"], c: 3}`, "{a?: int, ...}", `{b: [1, "y"], c: 3}`}, {`{a: 1, b: [1, "y"], c: [2, "z"]}`, "{b: [text], ...}", `{a: 1, b: ["y"], c: [2, "z"]}`}, {`{a: 1, z: 2}`, "{m?: int, z?: text, ...}", "{a: 1}"},
		{`[1, "a"]`, "[int] | [text]", "[1]"}, {`[1, "a"]`, "[text] | [int]", `["a"]`}, {`[1, "a"]`, "int | ({} | [text]) | [int]", `["a"]`}, {`[nil]`, "[int] | [text]", "[]"}, {`{a: 1, b: 2}`, "{c: int} | {b: int} | {a: int}", "{b: 2}"}, {`{x: [1, "a"], y: 2}`, "{x: [int] | [text]}", "{x: [1]}"},
	} {
		mustNarrow(t, val(x[0]), typ(x[1]), val(x[2]))
	}
	mustNarrow(t, api.List(nil), typ("[int]"), api.List{})
	mustNarrow(t, api.Dict(nil), typ("{a?: int}"), api.Dict{})
}

// P7.5: nothing is left of what is of another kind, or of a dict that loses a field that may not be missing.
func TestNarrowLoses(t *testing.T) {
	for _, x := range [][2]string{
		{"1", "text"}, {"1", "is 2"}, {"1", "float | text | nil | none"}, {"1", "[int]"}, {"1", "{...}"}, {"nil", "[any]"}, {"[1]", "int"}, {"[1]", "{...}"}, {"[1]", "is [2]"}, {`[1, "a"]`, "is [1]"}, {"{a: 1}", "[any]"}, {"{a: 1, b: 2}", "is {a: 1}"}, {"a/1{a: 1}", "of b"}, {"a/1{a: 1}", "{a: int}"}, {"{a: 1}", "of a"}, {"a/1{a: 1}", "is a/2{a: 1}"},
		{"{}", "{a: any}"}, {"{}", "{a: any, ...}"}, {"{b: 1}", "{a: int, b: int}"}, {`{a: "x"}`, "{a: int}"}, {`{a: "x", b: 1}`, "{a: int, b: int, ...}"}, {`{a: 1, b: "x"}`, "{a: int, b: int}"}, {"{a: {b: 1}}", "{a: {c: int}}"}, {"{a: {b: {}}}", "{a: {b: {c: any}}}"}, {"{a: 1}", "{a: none}"}, {"{a: 1}", "{b: int} | {a: text} | [int]"},
	} {
		v, s := val(x[0]), typ(x[1])
		mustLose(t, v, s)
		mustNarrow(t, api.List{v, v}, sample.ListOf(s), api.List{})
		mustNarrow(t, api.Dict{sample.Field("x", v)}, sample.DictOf("x?", s), api.Dict{})
		mustNarrow(t, api.Dict{sample.Field("x", v), sample.Field("y", v)}, sample.OpenDict("x?", s), api.Dict{sample.Field("y", v)})
		mustLose(t, api.Dict{sample.Field("x", v)}, sample.DictOf("x", s))
	}
}

// P7.5: Narrow at the limits.
func TestNarrowLimits(t *testing.T) {
	deep := func(innermost api.List) any { return sample.Within(api.MaxDepth-1, innermost) }
	lists := func(x api.Type) api.Type { return sample.ListsOf(api.MaxDepth, x) }
	most := append(sample.Items(api.MaxItems-1), "last")
	mustNarrow(t, deep(most), lists(sample.OfKind(api.KNil)), deep(most[:api.MaxItems-1]))
	mustNarrow(t, deep(most), lists(sample.OfKind(api.KText)), deep(most[api.MaxItems-1:]))
	mustNarrow(t, deep(most), lists(sample.NoValue()), deep(api.List{}))
	mustLose(t, sample.Within(api.MaxDepth, "last"), sample.Union(classes(9), sample.OfKind(api.KDict)))
	fields := sample.Fields(api.MaxItems)
	mustNarrow(t, fields, sample.ManyFields(api.MaxItems/2), fields[:api.MaxItems/2])
	mustNarrow(t, fields[:1], sample.OpenDict(), fields[:1])
	mustNarrow(t, sample.Numbered(api.MaxNodes-1, "last"), typ("[[text] | text]"), api.List{api.List{}, api.List{}, api.List{}, api.List{}, "last"})
	mustNarrow(t, sample.Record("c16382", 1), classes(api.MaxNodes-1), sample.Record("c16382", 1))
	mustLose(t, sample.Record("c16383", 1), classes(api.MaxNodes-1))
}
