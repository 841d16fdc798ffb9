package wrap_test

import (
	"testing"

	"tenon/api"
	"tenon/sample"
	"tenon/wrap"
)

// maker makes a wrapper of one kind.
type maker struct {
	name  string
	makes func(o api.Object) (api.Object, api.Errno)
}

func makers() []maker {
	by := sample.Able(all, numbered(2))
	return []maker{
		{"Show", func(o api.Object) (api.Object, api.Errno) { return wrap.Show(o, all) }},
		{"Add", func(o api.Object) (api.Object, api.Errno) { return wrap.Add(o, by) }},
		{"Guard", wrap.Guard},
		{"Count", func(o api.Object) (api.Object, api.Errno) { return wrap.Count(o, silent) }},
	}
}

// All four: wrappers lie 64 deep, of each kind, and not one more; the methods still come through.
func TestDeep(t *testing.T) {
	for _, first := range makers() {
		for _, last := range makers() {
			s := numbered(3)
			o := sample.Able(all, s)
			x := o
			for deep := range 63 {
				y, e := first.makes(x)
				if x = made(t, y, e); wrap.Deep(x) != deep+1 {
					t.Fatal(first.name, deep, wrap.Deep(x))
				}
			}
			y, e := last.makes(x) // 64 deep
			y = made(t, y, e)
			if wrap.Deep(y) != 64 || wrap.Root(y) != o {
				t.Error(first.name, last.name, wrap.Deep(y))
			}
			mustHave(t, y, all)
			for _, m := range methods() {
				*s = *numbered(3)
				mustAnswer(t, y, m, wanted(m, 3))
				mustLog(t, s, m.logged)
			}
			for _, beyond := range makers() {
				z, e := beyond.makes(y)
				mustNot(t, beyond.name, z, e, api.ErrLong)
			}
			mustLog(t, s)
		}
	}
}

// All four: nothing at all, and a nil Thing.
func TestOfNothing(t *testing.T) {
	for _, o := range []api.Object{nil, hollow} {
		for _, m := range makers() {
			x, e := m.makes(o)
			mustNot(t, m.name, x, e, api.ErrNil)
		}
	}
}

// What comes first: that an object is nothing, then that it is too deep, then what else was handed in.
func TestFirstError(t *testing.T) {
	deep := sample.Able(all, numbered(1))
	for range 64 {
		deep = mustShow(t, deep, all)
	}
	for _, x := range []struct {
		o    api.Object
		want api.Errno
	}{{nil, api.ErrNil}, {hollow, api.ErrNil}, {deep, api.ErrLong}, {thing(t), api.ErrArg}, {(*sample.Sharp)(nil), api.ErrArg}} {
		for _, has := range []int{-1, 16} {
			y, e := wrap.Show(x.o, has)
			mustNot(t, has, y, e, x.want)
		}
		y, e := wrap.Count(x.o, nil)
		mustNot(t, "Count", y, e, x.want)
	}
	for _, by := range []api.Object{nil, hollow} {
		y, e := wrap.Add(deep, by)
		mustNot(t, "Add", y, e, api.ErrNil)
	}
	y, e := wrap.Add(deep, deep)
	mustNot(t, "Add", y, e, api.ErrLong)
}

// Of Add only how deep the first one is counts: the second one may be 64 deep, or go through any number of others.
func TestAddByTheDeep(t *testing.T) {
	s := numbered(5)
	deep := sample.Able(all, s)
	for range 64 {
		deep = mustGuard(t, deep)
	}
	x := mustAdd(t, loose{[]int{1}}, deep)
	if wrap.Deep(x) != 1 {
		t.Error(wrap.Deep(x))
	}
	by := deep
	for range 2000 {
		by = mustAdd(t, loose{}, by)
	}
	if wrap.Deep(by) != 1 {
		t.Error(wrap.Deep(by))
	}
	for _, y := range []api.Object{x, by} {
		mustHave(t, y, all)
		for _, m := range methods()[3:] {
			*s = *numbered(5)
			mustAnswer(t, y, m, wanted(m, 5))
			mustLog(t, s, m.logged)
		}
	}
	if x.ID() != 1 {
		t.Error(x.ID())
	}
	mustLog(t, s)
}
