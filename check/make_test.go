package check_test

import (
	"fmt"
	"math/rand"
	"strconv"
	"strings"
	"testing"

	"tenon/api"
	"tenon/check"
	"tenon/sample"
	"tenon/schema"
	"tenon/text"
	"tenon/value"
)

// What the tests of this package are made of.

// typ is the type of a text, which must be one.
func typ(s string) api.Type {
	t, at, e := schema.ParseType(s)
	if e != api.OK {
		panic(fmt.Sprint(s, at, e))
	}
	return t
}

// val is the value of a text, which must be one.
func val(s string) any {
	v, at, e := text.Parse(s)
	if e != api.OK {
		panic(fmt.Sprint(s, at, e))
	}
	return v
}

// plain is all that a type says, nil and empty lists alike.
func plain(t api.Type) string { return strings.ReplaceAll(fmt.Sprintf("%#v", t), "(nil)", "{}") }

// show is a type as it is read, or as it lies there.
func show(t api.Type) string {
	s, e := schema.PrintType(t)
	if e != api.OK {
		s = plain(t)
	}
	return short(s)
}

// told is a value as it is read.
func told(v any) string {
	s, e := text.Print(v)
	return short(s) + strings.Repeat("!", int(e))
}

func short(s string) string {
	if len(s) > 200 {
		s = s[:100] + " .. " + s[len(s)-100:]
	}
	return s
}

// mustBe holds a value against a type: it is of it, or not, at that place; with something in all that the type's kinds do not use, too.
func mustBe(t *testing.T, v any, x api.Type, want bool, wantAt int) {
	t.Helper()
	for _, x := range []api.Type{x, sample.Cluttered(x)} {
		if ok, at, e := check.Is(v, x); ok != want || at != wantAt || e != api.OK {
			t.Errorf("Is(%s, %s): %v, %d, %d, want %v, %d", told(v), show(x), ok, at, e, want, wantAt)
		}
	}
}

// mustSub holds two types against one another, likewise.
func mustSub(t *testing.T, a, b api.Type, want bool) {
	t.Helper()
	for i := range 3 {
		x, y := a, b
		if i > 0 {
			x = sample.Cluttered(a)
		}
		if i > 1 {
			y = sample.Cluttered(b)
		}
		if ok, e := check.Sub(x, y); ok != want || e != api.OK {
			t.Errorf("Sub(%s, %s): %v, %d, want %v", show(a), show(b), ok, e, want)
		}
	}
}

// mustJoin holds what Either tells of two types against a third one, likewise.
func mustJoin(t *testing.T, a, b, want api.Type) {
	t.Helper()
	for _, x := range [][2]api.Type{{a, b}, {sample.Cluttered(a), sample.Cluttered(b)}} {
		if got, e := check.Either(x[0], x[1]); plain(got) != plain(want) || e != api.OK {
			t.Errorf("Either(%s, %s): %s, %d, want %s", show(a), show(b), show(got), e, show(want))
		}
	}
}

// mustBeOf holds what TypeOf tells of a value against a type.
func mustBeOf(t *testing.T, v any, want api.Type) {
	t.Helper()
	if got, e := check.TypeOf(v); plain(got) != plain(want) || e != api.OK {
		t.Errorf("TypeOf(%s): %s, %d, want %s", told(v), show(got), e, show(want))
	}
}

// mustNarrow holds what Narrow tells of a value against another one.
func mustNarrow(t *testing.T, v any, x api.Type, want any) {
	t.Helper()
	for _, x := range []api.Type{x, sample.Cluttered(x)} {
		if got, ok, e := check.Narrow(v, x); !ok || !value.Same(got, want) || e != api.OK {
			t.Errorf("Narrow(%s, %s): %s, %v, %d, want %s", told(v), show(x), told(got), ok, e, told(want))
		}
	}
}

// mustLose is of a value of which a type has nothing.
func mustLose(t *testing.T, v any, x api.Type) {
	t.Helper()
	for _, x := range []api.Type{x, sample.Cluttered(x)} {
		if got, ok, e := check.Narrow(v, x); ok || got != nil || e != api.OK {
			t.Errorf("Narrow(%s, %s): %s, %v, %d, want nothing", told(v), show(x), told(got), ok, e)
		}
	}
}

// classes is a union of n classes, which has one type more.
func classes(n int) api.Type {
	u := api.Type{Kind: api.TUnion}
	for i := range n {
		u.Parts = append(u.Parts, sample.OfClass("c"+strconv.Itoa(i)))
	}
	return u
}

// pool is types of every kind and many ways of being made, small ones.
func pool() []api.Type {
	var l []api.Type
	for _, s := range []string{
		"any", "none", "nil", "bool", "int", "float", "text", "bytes", "ref", "list", "dict", "record", "of a", "of b",
		"is nil", "is true", "is 0", "is 1", "is 0x0p+00", `is "a"`, "is #", "is @1", "is []", "is [1]", `is [1, "a"]`, "is {}", "is {a: 1}", `is {a: 1, b: "a"}`, "is a/1{}", "is a/2{a: 1}",
		"[any]", "[none]", "[int]", "[text]", "[int | text]", "[[int]]", "[[none]]", "[is 1]", "[{a: int}]", "[list | dict]", "[of a]",
		"{}", "{...}", "{a: int}", "{a?: int}", "{a: int, ...}", "{a?: int, ...}", "{a: none}", "{a?: none}", "{a?: none, ...}", "{a: any}", "{b: int}", "{b?: text, ...}", "{a: int, b: text}", "{a: int, b?: text}", "{a?: int, b?: text}", "{a: int, b?: text, ...}", "{a: [int | nil], c?: {...}}", "{a: int | text}", "{a: is 1}",
		"int | text", "text | int", "int | nil", "int | int", "none | none", "none | int", "any | none", "(int | text) | nil", "int | (text | nil)", "(none | none) | none", "[int] | [text]", "[int] | text", "{a: int} | {b: int}", "{a: int} | {a: text}", "is 1 | is 0", "is [] | [int]", "of a | of b", "record | nil", "{} | {a: int}", "list | dict | nil",
	} {
		l = append(l, typ(s))
	}
	return l
}

// values is values of every kind and many ways of being made, small ones; those of the pool's types among them.
func values() []any {
	l := sample.Rising()
	for _, s := range []string{
		"[1]", "[1, 2]", `[1, "a"]`, `["a"]`, `["a", 1]`, "[nil, 1]", "[[], [1]]", `[[1], ["a"]]`, "[{}]", "[{a: 1}]", "[a/1{}, a/2{}]", "[a/1{}, b/1{}]", "[[{a: [1]}]]",
		"{a: 1}", "{a: 2}", "{a: nil}", `{a: "a"}`, "{a: 1, b: 1}", `{a: 1, b: "a"}`, `{a: 1, b: "a", c: nil}`, "{b: 1}", `{b: "a"}`, "{c: {}}", "{a: [1, nil], c: {x: 1}}", "{a: [1, true], c: []}", "{a: []}", "{a: {a: {a: 1}}}", "a/2{a: 1}", "b/1{a: [1]}",
	} {
		l = append(l, val(s))
	}
	return l
}

// great is a value, mostly one that has parts.
func great(r *rand.Rand) any {
	v := sample.Anyhow(r.Intn, 4)
	for range 3 {
		if n, _, _ := value.Size(v); n < 3 {
			v = sample.Anyhow(r.Intn, 4)
		}
	}
	return v
}

// near is a type of which a value is, or of which it is but for little.
func near(r *rand.Rand, v any, depth int) api.Type {
	switch n := r.Intn(20); {
	case n == 0:
		return sample.AnyValue()
	case n == 1:
		return sample.AnyhowType(r.Intn, 2)
	case n < 6 && depth > 1:
		parts := []api.Type{near(r, v, depth-1), sample.AnyhowType(r.Intn, 2), near(r, sample.Anyhow(r.Intn, 2), depth-1)}
		r.Shuffle(len(parts), func(i, j int) { parts[i], parts[j] = parts[j], parts[i] })
		return sample.Union(parts[:2+r.Intn(2)]...)
	case n == 6:
		return sample.Only(v)
	case n == 7:
		return sample.OfKind(value.Kind(v))
	}
	switch x := v.(type) {
	case api.List:
		parts := []api.Type{sample.NoValue(), sample.NoValue()}
		for _, v := range x {
			if r.Intn(4) > 0 {
				parts = append(parts, near(r, v, depth-1))
			}
		}
		return sample.ListOf(sample.Union(parts...))
	case api.Dict:
		return nearDict(r, x, depth)
	case *api.Record:
		return sample.OfClass(x.Class)
	}
	return sample.OfKind(value.Kind(v))
}

func nearDict(r *rand.Rand, d api.Dict, depth int) api.Type {
	var fields []any
	at := 0
	for _, name := range []string{"a", "b", "c", "d"} {
		var v any = int64(1)
		has := at < len(d) && d[at].Name == name
		if has {
			v = d[at].Value
			at++
		}
		may := []string{"", "?"}[r.Intn(2)]
		if has && r.Intn(6) > 0 || !has && r.Intn(4) == 0 {
			fields = append(fields, name+may, near(r, v, depth-1))
		}
	}
	t := sample.DictOf(fields...)
	t.Open = r.Intn(2) == 0
	return t
}
