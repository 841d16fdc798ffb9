package check_test

import (
	"testing"

	"tenon/api"
	"tenon/check"
	"tenon/sample"
	"tenon/value"
)

// sharing is a type that holds one dict's type and one term at several places each, with clutter and spare room.
func sharing() api.Type {
	term := sample.ClutteredTerm(sample.Term(val(`[#0102, {a: [nil]}, r/1{b: #03}]`)))
	only := sample.Cluttered(sample.Only(nil))
	only.Only = term
	dict := sample.Cluttered(typ("{a: [int | text], b?: any, ...}"))
	dict.Parts[1] = only
	x := sample.Cluttered(typ("any | any | [any] | any"))
	x.Parts[0], x.Parts[1], x.Parts[2].Parts[0], x.Parts[3] = dict, only, dict, only
	return x
}

// roomy is the same type with all that lies in the spare room of its lists, too.
func roomy(t api.Type) api.Type {
	t.Names, t.Lacks, t.Only = t.Names[:cap(t.Names)], t.Lacks[:cap(t.Lacks)], roomyTerm(t.Only)
	parts := make([]api.Type, cap(t.Parts))
	for i, part := range t.Parts[:cap(t.Parts)] {
		parts[i] = roomy(part)
	}
	t.Parts = parts
	return t
}

func roomyTerm(t api.Term) api.Term {
	t.Bytes = t.Bytes[:cap(t.Bytes)]
	list, fields := make([]api.Term, cap(t.List)), make([]api.Entry, cap(t.Fields))
	for i, part := range t.List[:cap(t.List)] {
		list[i] = roomyTerm(part)
	}
	for i, x := range t.Fields[:cap(t.Fields)] {
		fields[i] = api.Entry{Name: x.Name, Value: roomyTerm(x.Value)}
	}
	t.List, t.Fields = list, fields
	return t
}

// within is a type and all types within it.
func within(t api.Type) []api.Type {
	l := []api.Type{t}
	for _, part := range t.Parts {
		l = append(l, within(part)...)
	}
	return l
}

// apart sees that no two lists of types share memory, of one type neither: each type is written over, and those behind it must read as before.
func apart(t *testing.T, what string, types ...api.Type) {
	t.Helper()
	var all []api.Type
	var before []string
	for _, x := range types {
		all = append(all, within(x)...)
	}
	for _, x := range all {
		before = append(before, plain(x))
	}
	for i, x := range all {
		if plain(x) != before[i] {
			t.Fatalf("%s: %s has become %s", what, short(before[i]), short(plain(x)))
		}
		names, lacks, parts := x.Names[:cap(x.Names)], x.Lacks[:cap(x.Lacks)], x.Parts[:cap(x.Parts)]
		for i := range names {
			names[i] = "spoilt"
		}
		for i := range lacks {
			lacks[i] = !lacks[i]
		}
		clear(parts)
		sample.SpoilTerm(x.Only)
	}
}

// Memory: no call changes what it is handed, spare room too.
func TestChangesNothing(t *testing.T) {
	x, y, v := sharing(), sample.Cluttered(typ("[{a: int, b: text}] | nil")), sample.Twofold()
	beforeX, beforeY := plain(roomy(x)), plain(roomy(y))
	check.Valid(x)
	check.Is(v, x)
	check.Is(v, y)
	check.Sub(x, y)
	check.Sub(y, x)
	check.Either(x, y)
	check.Either(x, x)
	check.TypeOf(v)
	check.Narrow(v, x)
	check.Narrow(v, sample.AnyValue())
	check.Narrow(v, sample.ListOf(sample.OfKind(api.KDict)))
	if plain(roomy(x)) != beforeX || plain(roomy(y)) != beforeY {
		t.Error("a type is changed")
	}
	if !value.Same(v, sample.Twofold()) || !sample.RoomKept(v) {
		t.Error("a value is changed")
	}
}

// Memory, P7.3: what Either tells shares nothing with what it was made of, nor one of its lists with another.
func TestEitherApart(t *testing.T) {
	for _, other := range []func() api.Type{sharing, func() api.Type { return typ("int | {a: [text], b?: is [#01], ...}") }, sample.AnyValue, sample.NoValue} {
		for _, order := range [][2]func() api.Type{{sharing, other}, {other, sharing}} {
			a, b := order[0](), order[1]()
			got, e := check.Either(a, b)
			again, _ := check.Either(a, b)
			want := plain(got)
			if e != api.OK || plain(again) != want {
				t.Fatal(e)
			}
			sample.SpoilType(a)
			sample.SpoilType(b)
			if plain(got) != want || plain(again) != want {
				t.Errorf("%s changes with what it was made of", short(want))
			}
			apart(t, "Either", got, again)
		}
	}
	x := sharing()
	got, e := check.Either(sample.ListOf(x), sample.DictOf("a", x, "b", x)) // both have the same lists
	if e != api.OK || got.Kind != api.TUnion {
		t.Fatal(show(got), e)
	}
	apart(t, "Either of types that share", got)
}

// Memory, P7.4: likewise what TypeOf tells.
func TestTypeOfApart(t *testing.T) {
	d := api.Dict{sample.Field("a", api.List{int64(1), "x"}), sample.Field("b", api.List{})}
	v := api.List{d, api.List{d, nil}, api.List{d}, d, api.Dict{sample.Field("c", d)}}
	got, e := check.TypeOf(v)
	again, _ := check.TypeOf(v)
	want := plain(got)
	if e != api.OK {
		t.Fatal(e)
	}
	sample.Spoil(v)
	if plain(got) != want || plain(again) != want {
		t.Error("a type changes with its value")
	}
	apart(t, "TypeOf", got, again)
}

// Memory, P7.5: what Narrow tells shares nothing with the value, the type, another answer, nor one of its lists with another.
func TestNarrowApart(t *testing.T) {
	for _, s := range []string{"any", "[any]", "[bytes | list | dict | record]", "[bytes | [any] | {...} | of r]", "[{b: bytes, ...} | [bytes] | is #0102]", "[{l: [bytes]}]", "[none] | [list] | none"} {
		v := sample.Twofold()
		x := typ(s)
		first, ok, e := check.Narrow(v, x)
		second, _, _ := check.Narrow(v, x)
		want, _ := value.Copy(first)
		if !ok || e != api.OK {
			t.Fatal(s, ok, e)
		}
		sample.Spoil(v)
		sample.SpoilType(x)
		if !value.Same(first, want) || !value.Same(second, want) {
			t.Error(s, "changes with what was handed in")
		}
		if at, ok := sample.Apart(first, second); !ok {
			t.Error(s, at, "shares memory with the other answer")
		}
		third, _, _ := check.Narrow(sample.Twofold(), typ(s))
		parts, _ := third.(api.List)
		if at, ok := sample.Apart(parts...); !ok {
			t.Error(s, at, "shares memory with another part")
		}
	}
	x := sharing()
	v, _ := value.Of(x.Parts[1].Only)
	got, ok, e := check.Narrow(v, x)
	sample.SpoilType(x)
	if want := val(`[#0102, {a: [nil]}, r/1{b: #03}]`); !ok || e != api.OK || !value.Same(got, want) {
		t.Error("a narrowed value is the type's own:", told(got), ok, e)
	}
}
