package check_test

import (
	"testing"

	"tenon/api"
	"tenon/check"
	"tenon/sample"
	"tenon/value"
)

// P7.2: TAny and TNone on either side, against all others.
func TestSubAnyNone(t *testing.T) {
	for _, x := range append(pool(), sample.Types()...) {
		mustSub(t, x, sample.AnyValue(), true)
		mustSub(t, sample.NoValue(), x, true)
	}
	for _, x := range pool() {
		anyOf := show(x) == "any" || show(x) == "any | none"
		noneOf := show(x) == "none" || show(x) == "none | none" || show(x) == "(none | none) | none"
		mustSub(t, sample.AnyValue(), x, anyOf)
		mustSub(t, x, sample.NoValue(), noneOf)
	}
}

// subCase is two types as texts, and whether the first is plainly of the second.
type subCase struct {
	a, b string
	want bool
}

func mustSubAll(t *testing.T, all []subCase) {
	t.Helper()
	for _, x := range all {
		mustSub(t, typ(x.a), typ(x.b), x.want)
	}
}

// P7.2: unions, the first type's ahead of the second's.
func TestSubUnions(t *testing.T) {
	mustSubAll(t, []subCase{
		{"int | text", "int", false}, {"int | text", "text", false}, {"int | int", "int", true}, {"none | int", "int", true}, {"int", "int | text", true}, {"text", "int | text", true}, {"nil", "int | text", false},
		{"int | text", "text | int", true}, {"int | text", "text | nil | int", true}, {"int | nil", "text | int", false}, {"(int | text) | nil", "nil | (text | int)", true}, {"int | (text | nil)", "int | text", false}, {"int", "(nil | (text | int)) | bool", true}, {"int", "none | none", false}, {"int", "none | any", true},
		{"[int | text]", "[int] | [text]", false}, {"[int] | [text]", "[int | text]", true}, {"{a: int | text}", "{a: int} | {a: text}", false}, {"{a: int} | {a: text}", "{a: int | text}", true}, {"is 1 | is 2", "int", true}, {`is 1 | is "a"`, "int", false}, {`is 1 | is "a"`, "int | text", true},
		{"nil | bool | int | float | text | bytes | ref | list | dict | record", "any", true}, {"any", "nil | bool | int | float | text | bytes | ref | list | dict | record", false}, {"bool", "is true | is false", false},
	})
}

// P7.2: TOnly against each other kind of types: whether its value is of it.
func TestSubOnly(t *testing.T) {
	for _, v := range values() {
		for _, x := range pool() {
			ok, _, _ := check.Is(v, x)
			mustSub(t, sample.Only(v), x, ok)
		}
		for kind := api.KNil; kind <= api.KRecord; kind++ {
			mustSub(t, sample.Only(v), sample.OfKind(kind), value.Kind(v) == kind)
			mustSub(t, sample.OfKind(kind), sample.Only(v), false)
		}
	}
	mustSubAll(t, []subCase{
		{"is 1", "int", true}, {"is 1", "is 1", true}, {"is 1", "is 2", false}, {"is 1", "is 0x1p+00", false}, {"is nil", "nil", true}, {"nil", "is nil", false}, {"is []", "[none]", true}, {"[none]", "is []", false}, {"is [1]", "[int]", true}, {`is [1, "a"]`, "[int]", false}, {`is [1, "a"]`, "[int | text]", true}, {"is [1]", "[is 1]", true},
		{"is {a: 1}", "{a: int}", true}, {"is {a: 1}", "{a: int, b?: text}", true}, {"is {a: 1}", "{...}", true}, {"is {a: 1}", "{}", false}, {"is {a: 1}", "{a: int, b: text}", false}, {"{}", "is {}", false}, {"is a/1{}", "of a", true}, {"is a/1{}", "of b", false}, {"is a/1{}", "record", true}, {"of a", "is a/1{}", false}, {"is a/1{}", "{}", false},
	})
}

// P7.2: kinds, lists, records.
func TestSubKindsListsRecords(t *testing.T) {
	for a := api.KNil; a <= api.KRecord; a++ {
		for b := api.KNil; b <= api.KRecord; b++ {
			mustSub(t, sample.OfKind(a), sample.OfKind(b), a == b)
		}
		for _, x := range []struct {
			s    string
			kind int
		}{{"[int]", api.KList}, {"[any]", api.KList}, {"[none]", api.KList}, {"{}", api.KDict}, {"{...}", api.KDict}, {"{a: int, b?: text}", api.KDict}, {"of a", api.KRecord}} {
			mustSub(t, typ(x.s), sample.OfKind(a), a == x.kind)
			mustSub(t, sample.OfKind(a), typ(x.s), false)
		}
	}
	mustSubAll(t, []subCase{
		{"[none]", "[int]", true}, {"[int]", "[none]", false}, {"list", "[any]", false}, {"[any]", "list", true}, {"[int]", "[int]", true}, {"[int]", "[any]", true}, {"[any]", "[int]", false}, {"[int]", "[text]", false}, {"[int]", "[int | text]", true}, {"[[none]]", "[[int]]", true}, {"[[int]]", "[list]", true}, {"[list]", "[[int]]", false}, {"[int]", "int", false}, {"int", "[int]", false},
		{"[int]", "{}", false}, {"[int]", "of a", false}, {"{}", "[any]", false}, {"{}", "of a", false}, {"of a", "[any]", false}, {"of a", "{...}", false}, {"of a", "of a", true}, {"of a", "of b", false}, {"of a", "of aa", false}, {"of a", "of b | of a", true},
	})
}

// P7.2: dicts, open and not, with names that may be missing and that may not, on either side or on both.
func TestSubDicts(t *testing.T) {
	mustSubAll(t, []subCase{
		{"{}", "{}", true}, {"{}", "{...}", true}, {"{...}", "{}", false}, {"{...}", "{...}", true}, {"dict", "{...}", false}, {"{...}", "dict", true},
		{"{a: int}", "{a: int}", true}, {"{a: int}", "{a: text}", false}, {"{a: int}", "{a: any}", true}, {"{a: any}", "{a: int}", false}, {"{a: none}", "{a: int}", true},
		{"{a: int}", "{a?: int}", true}, {"{a?: int}", "{a: int}", false}, {"{a?: int}", "{a?: int}", true}, {"{a?: int}", "{a?: text}", false}, {"{a?: none}", "{}", false},
		{"{a: int}", "{}", false}, {"{a: int}", "{...}", true}, {"{a?: int}", "{}", false}, {"{a?: int}", "{...}", true}, {"{a: int, ...}", "{}", false}, {"{a: int, ...}", "{...}", true},
		{"{}", "{a: int}", false}, {"{}", "{a?: int}", true}, {"{}", "{a: int, ...}", false}, {"{}", "{a?: int, ...}", true}, {"{...}", "{a?: int, ...}", false}, {"{...}", "{a?: any, ...}", false}, {"{...}", "{a: int, ...}", false}, {"{...}", "{a?: int}", false},
		{"{a: int, ...}", "{a: int, ...}", true}, {"{a: int, ...}", "{a: int}", false}, {"{a: int}", "{a: int, ...}", true}, {"{a: int, ...}", "{a?: any, ...}", true}, {"{a?: int, ...}", "{a: int, ...}", false},
		{"{a: int, b: text}", "{b: text, ...}", true}, {"{a: int, b: text}", "{a: int}", false}, {"{a: int, b: text}", "{b: text}", false}, {"{a: int, c: int}", "{a: int, b?: text, c: int}", true}, {"{a: int, c: int}", "{a: int, b: text, c: int}", false}, {"{a: int, c: int, ...}", "{a: int, b?: text, c: int, ...}", false}, {"{b: int}", "{a?: int, b: int, c?: int}", true}, {"{b: int, d: int}", "{a?: int, b: int, c?: int, ...}", true}, {"{b: int, d: int}", "{a?: int, b: int, c?: int}", false}, {"{a: int, b: int}", "{a: int, b: text}", false}, {"{a: text, b: int}", "{a: int, b: int}", false},
		{"{a: {b: [int]}}", "{a: {b: [int | text], ...}}", true}, {"{a: {b: [int]}}", "{a: {b: [text]}}", false},
	})
}

// P7.3: the second, if the first is plainly of it; else the first, if the second is of that; else a union of the parts of both.
func TestEither(t *testing.T) {
	for _, x := range [][3]string{
		{"int", "int", "int"}, {"int", "any", "any"}, {"any", "int", "any"}, {"none", "int", "int"}, {"int", "none", "int"}, {"none", "none", "none"}, {"any", "any", "any"}, {"any", "none", "any"}, {"none", "any", "any"},
		{"is 1", "int", "int"}, {"int", "is 1", "int"}, {"is 1", "is 1", "is 1"}, {"is 1", "is 2", "is 1 | is 2"}, {"is 2", "is 1", "is 2 | is 1"}, {"is 1", "text", "is 1 | text"}, {`is [1, {a: #01}]`, `is b/3{x: -0x0p+00}`, `is [1, {a: #01}] | is b/3{x: -0x0p+00}`},
		{"int", "text", "int | text"}, {"text", "int", "text | int"}, {"int | text", "nil", "int | text | nil"}, {"nil", "int | text", "nil | int | text"}, {"int | text", "nil | bool", "int | text | nil | bool"}, {"int | nil", "text | nil", "int | nil | text | nil"}, {"int | int", "text | text", "int | int | text | text"},
		{"(int | text) | nil", "bool", "(int | text) | nil | bool"}, {"bool", "nil | (int | text)", "bool | nil | (int | text)"}, {"(int | text) | nil", "bool | (ref | bytes)", "(int | text) | nil | bool | (ref | bytes)"},
		{"int | text", "text | int", "text | int"}, {"is 1 | int", "int", "int"}, {"int", "is 1 | int", "is 1 | int"}, {"int | text", "int", "int | text"}, {"int", "int | text", "int | text"}, {"none | int", "int", "int"}, {"int", "none | int", "none | int"},
		{"[int]", "[text]", "[int] | [text]"}, {"[none]", "[int]", "[int]"}, {"[int]", "[none]", "[int]"}, {"[int]", "list", "list"}, {"[int]", "[int] | nil", "[int] | nil"}, {"[[int] | nil]", "[{}]", "[[int] | nil] | [{}]"},
		{"{a: int}", "{a?: int}", "{a?: int}"}, {"{a?: int}", "{a: int}", "{a?: int}"}, {"{a: int}", "{b?: text, ...}", "{b?: text, ...}"}, {"{a: int, ...}", "{b?: text, ...}", "{a: int, ...} | {b?: text, ...}"}, {"{}", "{...}", "{...}"}, {"{...}", "{a: int, b?: [is 3], ...}", "{...}"}, {"of a", "of b", "of a | of b"}, {"of a", "record", "record"}, {"record", "of a", "record"},
	} {
		mustJoin(t, typ(x[0]), typ(x[1]), typ(x[2]))
	}
}

// P7.3: a union that would lie too deep or have too many types can't be.
func TestEitherCannotBe(t *testing.T) {
	text := sample.OfKind(api.KText)
	deep := func(depth int) api.Type { return sample.ListsOf(depth, sample.OfKind(api.KInt)) }
	mustJoin(t, deep(api.MaxDepth-1), text, sample.Union(deep(api.MaxDepth-1), text))
	mustJoin(t, text, deep(api.MaxDepth-1), sample.Union(text, deep(api.MaxDepth-1)))
	mustJoin(t, sample.Union(deep(api.MaxDepth-1), text), deep(2), sample.Union(deep(api.MaxDepth-1), text, deep(2)))
	mustJoin(t, deep(api.MaxDepth), deep(api.MaxDepth), deep(api.MaxDepth))
	mustJoin(t, deep(api.MaxDepth), sample.OfKind(api.KList), sample.OfKind(api.KList))
	mustJoin(t, classes(api.MaxNodes-2), text, sample.Union(append(classes(api.MaxNodes-2).Parts, text)...))
	mustJoin(t, text, classes(api.MaxNodes-2), sample.Union(append([]api.Type{text}, classes(api.MaxNodes-2).Parts...)...))
	mustJoin(t, classes(api.MaxNodes-1), sample.OfClass("c7"), classes(api.MaxNodes-1))
	mustJoin(t, sample.OfClass("c7"), classes(api.MaxNodes-1), classes(api.MaxNodes-1))
	mustJoin(t, classes(api.MaxNodes-1), sample.OfKind(api.KRecord), sample.OfKind(api.KRecord))
	for i, x := range [][2]api.Type{
		{deep(api.MaxDepth), text}, {text, deep(api.MaxDepth)}, {deep(api.MaxDepth), sample.ListsOf(api.MaxDepth, text)}, {deep(api.MaxDepth), sample.Union(text, deep(2))},
		{classes(api.MaxNodes - 1), text}, {text, classes(api.MaxNodes - 1)}, {classes(api.MaxNodes - 2), sample.ListOf(text)}, {classes(api.MaxNodes - 2), sample.Union(text, text)}, {sample.ListOf(classes(api.MaxNodes / 2)), sample.DictOf("a", classes(api.MaxNodes/2))},
	} {
		if got, e := check.Either(x[0], x[1]); plain(got) != plain(api.Type{}) || e != api.ErrType {
			t.Errorf("%d: %s, %d", i, show(got), e)
		}
	}
}

// halved is a union of unions of unions and so on of a union's parts.
func halved(parts []api.Type) api.Type {
	if len(parts) == 1 {
		return parts[0]
	}
	return sample.Union(halved(parts[:len(parts)/2]), halved(parts[len(parts)/2:]))
}

// P7.2: great types are held against each other in reasonable time, however they are nested.
func TestSubGreat(t *testing.T) {
	parts := classes(api.MaxNodes / 8).Parts
	x := halved(parts)
	mustSub(t, x, x, true)
	mustSub(t, x, sample.Union(parts...), true)
	mustSub(t, x, halved(parts[1:]), false)
	mustSub(t, x, halved(parts[:len(parts)-1]), false)
	list, dict := sample.NoValue(), sample.NoValue()
	for check.Valid(list) {
		mustSub(t, list, list, true)
		list = sample.ListOf(sample.Union(list, sample.OfKind(api.KInt), sample.Union(list, sample.OfKind(api.KText))))
	}
	for check.Valid(dict) {
		mustSub(t, dict, dict, true)
		dict = sample.Union(sample.DictOf("a", dict, "b?", dict), sample.OpenDict("a", sample.OfKind(api.KInt)))
	}
}
