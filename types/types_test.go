package types_test

import (
	"fmt"
	"strings"
	"testing"

	"tenon/api"
	"tenon/sample"
	"tenon/types"
	"tenon/value"
)

// plain is all that a type or term says, nil and empty lists alike.
func plain(x any) string { return strings.ReplaceAll(fmt.Sprintf("%#v", x), "(nil)", "{}") }

func TestCan(t *testing.T) {
	for i, x := range sample.Types() {
		if !types.Can(x) {
			t.Errorf("%d: %.100s can be", i, plain(x))
		}
	}
	for _, x := range sample.WrongTypes() {
		if types.Can(x.T) {
			t.Errorf("%s can't be", x.Name)
		}
	}
	for kind := -1; kind <= 12; kind++ {
		if can := types.Can(sample.OfKind(kind)); can != (kind >= 1 && kind <= 10) {
			t.Error("kind", kind, can)
		}
	}
}

// What a kind does not use plays no part.
func TestClutter(t *testing.T) {
	for i, x := range sample.Types() {
		c := sample.Cluttered(x)
		if !types.Can(c) {
			t.Errorf("%d with clutter: %.100s", i, plain(x))
		}
		if got := types.Copy(c); plain(got) != plain(x) {
			t.Errorf("%d: a copy is %.100s, want %.100s", i, plain(got), plain(x))
		}
	}
	for _, x := range sample.WrongTypes() {
		c := x.T
		c.Only, c.Of = sample.Term(nil), api.KInt
		if c.Kind != api.TOnly && c.Kind != api.TKind && types.Can(c) {
			t.Errorf("%s with a good kind and term", x.Name)
		}
	}
}

// Two types are the same just if they are alike in all that their kinds use.
func TestSame(t *testing.T) {
	all := append(sample.Types(),
		sample.DictOf("a?", sample.OfKind(api.KInt)), sample.OpenDict("a", sample.OfKind(api.KInt)), sample.DictOf("b", sample.OfKind(api.KInt)), sample.DictOf("a", sample.OfKind(api.KText)), sample.DictOf("a", sample.OfKind(api.KInt), "b", sample.OfKind(api.KInt)),
		sample.Union(sample.OfKind(api.KText), sample.OfKind(api.KInt)), sample.Union(sample.OfKind(api.KInt), sample.OfKind(api.KText)), sample.Union(sample.OfKind(api.KInt), sample.OfKind(api.KInt), sample.OfKind(api.KInt)), sample.Union(sample.OfKind(api.KInt), sample.Union(sample.OfKind(api.KNil), sample.OfKind(api.KText))),
		sample.ListsOf(api.MaxDepth, sample.NoValue()), sample.UnionsOf(api.MaxNodes-1), sample.ManyFields(api.MaxItems-1), sample.OfClass("b"),
	)
	for i, a := range all {
		for j, b := range all {
			if same := types.Same(a, b); same != (i == j) {
				t.Errorf("%.100s and %.100s: %v", plain(a), plain(b), same)
			}
		}
		if c := sample.Cluttered(a); !types.Same(a, c) || !types.Same(c, a) || !types.Same(c, types.Copy(c)) {
			t.Errorf("%.100s is not the same with clutter", plain(a))
		}
	}
}

func TestCopyTerm(t *testing.T) {
	for i, v := range sample.Rich() {
		want := sample.Term(v)
		got := types.CopyTerm(sample.ClutteredTerm(want))
		if plain(got) != plain(want) {
			t.Errorf("%d: %.100s, want %.100s", i, plain(got), plain(want))
		}
		if w, e := value.Of(got); e != api.OK || !value.Same(w, v) {
			t.Errorf("%d: another value, %d", i, e)
		}
	}
}

// threefold is a type that holds one dict's type at three places, with spare room and clutter.
func threefold() api.Type {
	term := sample.Term(api.List{[]byte{1}, api.Dict{sample.Field("a", int64(1))}})
	dict := sample.OpenDict("a", sample.OfKind(api.KInt), "b?", api.Type{Kind: api.TOnly, Only: term})
	x := sample.Cluttered(sample.Union(dict, dict, sample.ListOf(dict)))
	x.Parts[1], x.Parts[2].Parts[0] = x.Parts[0], x.Parts[0]
	return x
}

// A copy shares none of its lists with the type, spare room too, nor any two of its own with each other.
func TestCopyShares(t *testing.T) {
	x := threefold()
	c, want := types.Copy(x), types.Copy(threefold())
	sample.SpoilType(x.Parts[0])
	if plain(c) != plain(want) {
		t.Error("the copy changes with the type")
	}
	sample.SpoilType(c.Parts[0])
	if plain(c.Parts[1]) != plain(want.Parts[1]) || plain(c.Parts[2]) != plain(want.Parts[2]) {
		t.Error("parts of a copy change with one another")
	}
	sample.SpoilType(c.Parts[1])
	if plain(c.Parts[2]) != plain(want.Parts[2]) {
		t.Error("deeper parts of a copy change with others")
	}
}
