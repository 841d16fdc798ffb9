package heap_test

import (
	"fmt"
	"math"
	"slices"
	"testing"

	"tenon/api"
	"tenon/sample"
)

// P13.4, P13.6: a root comes, becomes another record's, goes; who is told is told of 0, and only where something has changed.
func TestSetRoot(t *testing.T) {
	h := ring(t)
	w := watch(t, h)
	for i, x := range []struct {
		name  string
		id    api.Ref
		want  api.Errno
		told  []api.Ref
		roots []api.Root
	}{
		{"b", 0, api.OK, nil, nil},
		{"b", 2, api.OK, []api.Ref{0}, []api.Root{{Name: "b", ID: 2}}},
		{"b", 2, api.OK, nil, []api.Root{{Name: "b", ID: 2}}},
		{"a", 2, api.OK, []api.Ref{0}, []api.Root{{Name: "a", ID: 2}, {Name: "b", ID: 2}}},
		{"b", 1, api.OK, []api.Ref{0}, []api.Root{{Name: "a", ID: 2}, {Name: "b", ID: 1}}},
		{"c", 0, api.OK, nil, []api.Root{{Name: "a", ID: 2}, {Name: "b", ID: 1}}},
		{"c", 5, api.ErrIdentity, nil, []api.Root{{Name: "a", ID: 2}, {Name: "b", ID: 1}}},
		{"b", 5, api.ErrIdentity, nil, []api.Root{{Name: "a", ID: 2}, {Name: "b", ID: 1}}},
		{"b", math.MaxUint64, api.ErrIdentity, nil, []api.Root{{Name: "a", ID: 2}, {Name: "b", ID: 1}}},
		{"a", 0, api.OK, []api.Ref{0}, []api.Root{{Name: "b", ID: 1}}},
		{"a", 0, api.OK, nil, []api.Root{{Name: "b", ID: 1}}},
		{"aa", 4, api.OK, []api.Ref{0}, []api.Root{{Name: "aa", ID: 4}, {Name: "b", ID: 1}}},
		{"a_", 4, api.OK, []api.Ref{0}, []api.Root{{Name: "a_", ID: 4}, {Name: "aa", ID: 4}, {Name: "b", ID: 1}}},
		{"a1", 4, api.OK, []api.Ref{0}, []api.Root{{Name: "a1", ID: 4}, {Name: "a_", ID: 4}, {Name: "aa", ID: 4}, {Name: "b", ID: 1}}},
	} {
		must(t, i, h.SetRoot(x.name, x.id), x.want)
		w.must(t, x.told...)
		if l := h.Roots(); !slices.Equal(l, x.roots) || !slices.Equal(h.Image().Roots, x.roots) {
			t.Error(i, l, x.roots)
		}
	}
}

// P13.4: what is no name is told ahead of all else; all names that can be are roots'.
func TestRootNames(t *testing.T) {
	h := ring(t)
	for _, name := range sample.BadNames() {
		mustStay(t, name, h, func() {
			for _, id := range []api.Ref{0, 1, 5, math.MaxUint64} {
				must(t, name, h.SetRoot(name, id), api.ErrName)
			}
		})
	}
	for _, name := range sample.GoodNames() {
		must(t, name, h.SetRoot(name, 3), api.OK)
		if !slices.Contains(h.Roots(), api.Root{Name: name, ID: 3}) {
			t.Error(name, h.Roots())
		}
	}
}

// P13.4: there are at most MaxItems roots; one that is there can be another record's all the same, and where one goes another one can come.
func TestMostRoots(t *testing.T) {
	h := load(t, api.Image{Room: 2, Next: 3, Records: sample.StoredNaming(2)})
	for i := range api.MaxItems {
		must(t, i, h.SetRoot(fmt.Sprint("r", i), 1), api.OK)
	}
	mustStay(t, "one more", h, func() {
		must(t, "one more", h.SetRoot("more", 1), api.ErrFull)
		must(t, "no name", h.SetRoot("More", 1), api.ErrName)
		must(t, "not there", h.SetRoot("more", 3), api.ErrIdentity)
		must(t, "none to none", h.SetRoot("more", 0), api.OK)
		must(t, "as it was", h.SetRoot("r7", 1), api.OK)
	})
	must(t, "another record's", h.SetRoot("r7", 2), api.OK)
	must(t, "one more", h.SetRoot("more", 1), api.ErrFull)
	must(t, "one less", h.SetRoot("r9", 0), api.OK)
	must(t, "one more", h.SetRoot("more", 1), api.OK)
	must(t, "and one more", h.SetRoot("r9", 1), api.ErrFull)
	if l := h.Roots(); len(l) != api.MaxItems || !slices.IsSortedFunc(l, func(a, b api.Root) int { return compare(a.Name, b.Name) }) {
		t.Error(len(l))
	}
	if !sample.ImageCanBe(h.Image()) {
		t.Error("the image can't be")
	}
}

func compare(a, b string) int {
	switch {
	case a < b:
		return -1
	case a > b:
		return 1
	}
	return 0
}

// P13.4: whom a record names, wherever that stands within it, rising, each once; and who names it.
func TestNamesAndNamers(t *testing.T) {
	h := empty(t, 20)
	for range 9 {
		add(t, h, sample.Naming())
	}
	for _, x := range []struct {
		r    *api.Record
		want []api.Ref
	}{
		{sample.Record("a", 1), nil}, {sample.Naming(0, 0), nil}, {sample.Naming(9, 1, 5, 1, 9, 0), []api.Ref{1, 5, 9}},
		{sample.Record("a", 1, sample.Field("a", api.Ref(7)), sample.Field("b", int64(3)), sample.Field("c", 2.0), sample.Field("d", "@4")), []api.Ref{7}},
		{sample.Record("a", 1, sample.Field("a", sample.Within(api.MaxDepth-1, api.Ref(8)))), []api.Ref{8}},
		{sample.Record("a", 1, sample.Field("a", sample.WithinFields(api.MaxDepth-1, api.Ref(8)))), []api.Ref{8}},
		{sample.Record("a", 1, sample.Field("a", sample.Numbered(api.MaxNodes-2, api.Ref(2)))), []api.Ref{2}},
		{sample.Record("a", 1, sample.Field("a", sample.Naming(6, 4)), sample.Field("b", api.Dict{sample.Field("x", api.Ref(2)), sample.Field("y", api.List{api.List{api.Ref(6)}})})), []api.Ref{2, 4, 6}},
		{sample.Record("a", 1, sample.Field("a", api.Ref(7)), sample.Field("b", sample.Record("in", 1, sample.Field("a", api.Ref(5)), sample.Field("b", sample.Naming(1, 7)))), sample.Field("c", api.Ref(2))), []api.Ref{1, 2, 5, 7}},
		{sample.Naming(9, 8, 7, 6, 5, 4, 3, 2, 1), []api.Ref{1, 2, 3, 4, 5, 6, 7, 8, 9}},
	} {
		must(t, sample.Told(x.r), h.Put(3, x.r), api.OK)
		mustName(t, h, 3, x.want...)
		for id := api.Ref(1); id <= 9; id++ {
			if slices.Contains(x.want, id) {
				mustBeNamed(t, h, id, 3)
			} else {
				mustBeNamed(t, h, id)
			}
		}
	}
	must(t, "Put", h.Put(8, sample.Naming(3, 3)), api.OK)
	must(t, "Put", h.Put(1, sample.Naming(3)), api.OK)
	mustBeNamed(t, h, 3, 1, 3, 8)
	mustBeNamed(t, h, 8, 3)
}

// P13.4: a record that names all others and is named by all; a root names nobody.
func TestAllNames(t *testing.T) {
	x := api.Image{Room: api.MaxHeap, Next: api.MaxHeap + 1}
	all := make([]api.Ref, api.MaxHeap)
	for i := range all {
		all[i] = api.Ref(i + 1)
		x.Records = append(x.Records, api.Stored{ID: all[i], Record: sample.Naming(1)})
	}
	x.Records[0].Record = sample.Naming(all...)
	x.Roots = []api.Root{{Name: "top", ID: 7}}
	h := load(t, x)
	mustName(t, h, 1, all...)
	mustBeNamed(t, h, 1, all...)
	mustName(t, h, 7, 1)
	mustBeNamed(t, h, 7, 1)
	mustRefs(t, "IDs", h.IDs(), api.OK, all...)
}
