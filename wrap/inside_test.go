package wrap_test

import (
	"math"
	"testing"

	"tenon/api"
	"tenon/object"
	"tenon/sample"
	"tenon/wrap"
)

// thing is an object without any ability.
func thing(t *testing.T) api.Object {
	t.Helper()
	x, e := object.New(7, api.Dict{sample.Field("a", int64(1))})
	if e != api.OK {
		t.Fatal(e)
	}
	return x
}

// mustBeInside holds what is inside against what is wanted: the objects around one another, from the outermost on.
func mustBeInside(t *testing.T, chain ...api.Object) {
	t.Helper()
	last := len(chain) - 1
	for i, o := range chain {
		var want api.Object
		if i < last {
			want = chain[i+1]
		}
		if in, is := wrap.Inner(o); in != want || is != (i < last) {
			t.Errorf("Inner of %d: %T, %v", i, in, is)
		}
		if r := wrap.Root(o); r != chain[last] {
			t.Errorf("Root of %d: %T", i, r)
		}
		if n := wrap.Deep(o); n != last-i {
			t.Errorf("Deep of %d: %d", i, n)
		}
	}
}

// mustReach holds what is reached against what is wanted; nil: nothing.
func mustReach(t *testing.T, o api.Object, has int, want api.Object) {
	t.Helper()
	if x, ok := wrap.Reach(o, has); x != want || ok != (want != nil) {
		t.Errorf("Reach(%T, %d): %T, %v, want %T", o, has, x, ok, want)
	}
}

// P11.5: of each kind of wrapper, alone and in one another; none of the methods is called.
func TestInside(t *testing.T) {
	for set := range 16 {
		s := numbered(1)
		s.Meanwhile = func(method string) { panic(method) }
		o := sample.Able(set, s)
		mustBeInside(t, o)
		for _, x := range ofEachKind(t, o) {
			mustBeInside(t, x, o)
			for _, y := range ofEachKind(t, x) {
				mustBeInside(t, y, x, o)
				for _, z := range ofEachKind(t, y) {
					mustBeInside(t, z, y, x, o)
				}
			}
		}
		mustLog(t, s)
	}
}

// P11.5: of what an Add was made of only the first one is inside, though the second one may be a wrapper, too.
func TestInsideAdded(t *testing.T) {
	o, by := sample.Able(1, numbered(1)), sample.Able(14, numbered(2))
	around := mustGuard(t, mustGuard(t, by))
	x := mustAdd(t, o, around)
	mustBeInside(t, x, o)
	y := mustAdd(t, x, mustAdd(t, around, x))
	mustBeInside(t, y, x, o)
	for _, has := range []int{0, 1, 2, 15} {
		mustReach(t, y, has, y)
	}
	mustReach(t, mustShow(t, y, 0), 15, y)
	mustReach(t, mustShow(t, o, 0), 2, nil)
	mustReach(t, mustShow(t, mustAdd(t, mustShow(t, o, 0), by), 7), 15, nil) // o has one of them, by the others; none has all
}

// P11.5: nothing, a nil Thing, a foreign nil pointer, a Thing: none is a wrapper; what is not something is never reached, not even as what has nothing.
func TestInsideNothing(t *testing.T) {
	var sharp *sample.Sharp
	x := thing(t)
	mustBeInside(t, nil)
	mustBeInside(t, hollow)
	mustBeInside(t, sharp)
	mustBeInside(t, x)
	mustBeInside(t, mustGuard(t, sharp), sharp)
	mustBeInside(t, mustGuard(t, x), x)
	for has := -1; has <= 16; has++ {
		mustReach(t, nil, has, nil)
		mustReach(t, hollow, has, nil)
	}
	mustReach(t, sharp, all, sharp)
	mustReach(t, x, 0, x)
	mustReach(t, x, 1, nil)
}

// P11.5: the first that has all that is meant is reached, for each set that is had, shown and meant; none of the methods is called.
func TestReach(t *testing.T) {
	for had := range 16 {
		s := numbered(1)
		s.Meanwhile = func(method string) { panic(method) }
		o := sample.Able(had, s)
		for shown := range 16 {
			x := mustShow(t, o, shown)
			y := mustGuard(t, mustShow(t, x, 0))
			for has := range 16 {
				want := api.Object(nil)
				switch {
				case has == 0:
					mustReach(t, y, has, y)
					mustReach(t, x, has, x)
					mustReach(t, o, has, o)
					continue
				case had&shown&has == has:
					want = x
				case had&has == has:
					want = o
				}
				mustReach(t, y, has, want)
				mustReach(t, x, has, want)
			}
			for _, has := range []int{-1, 16, 17, -16, 32, math.MinInt, math.MaxInt} {
				mustReach(t, y, has, nil)
				mustReach(t, x, has, nil)
				mustReach(t, o, has, nil)
			}
		}
		mustLog(t, s)
	}
}

// fake has methods that are named as this package's own; it is no wrapper for that.
type fake struct{ api.Object }

func (f fake) inside() api.Object        { return f.Object }
func (f fake) Inside() api.Object        { return f.Object }
func (f fake) Inner() (api.Object, bool) { return f.Object, true }
func (f fake) Unwrap() api.Object        { return f.Object }

// P11.5: nothing else is a wrapper: not what embeds one, nor what is named alike; so it may be wrapped 64 deep again.
func TestNothingElse(t *testing.T) {
	o := sample.Able(all, numbered(1))
	x := o
	for range 64 {
		x = mustGuard(t, x)
	}
	for _, y := range []api.Object{fake{x}, &fake{x}, fake{o}, struct{ api.Object }{x}, struct{ api.Lazy }{x.(api.Lazy)}, &struct{ api.Versioned }{x.(api.Versioned)}} {
		mustBeInside(t, y)
		z := mustGuard(t, y)
		mustBeInside(t, z, y)
		for range 63 {
			z = mustGuard(t, z)
		}
		if wrap.Deep(z) != 64 || wrap.Root(z) != y || z.ID() != 1 {
			t.Error(wrap.Deep(z), wrap.Root(z))
		}
	}
	mustReach(t, fake{x}, 1, nil)
}

// Wrappers can be compared, whatever is inside, and each is its own.
func TestEachItsOwn(t *testing.T) {
	for _, o := range []api.Object{loose{}, thing(t), sample.Able(all, numbered(1))} {
		first, second := ofEachKind(t, o), ofEachKind(t, o)
		for i, x := range first {
			for j, y := range second {
				if one, e := object.One(x, y); one || e != api.OK {
					t.Error(i, j, one, e)
				}
				if one, e := object.One(x, first[j]); one != (i == j) || e != api.OK {
					t.Error(i, j, one, e)
				}
			}
			if one, e := object.One(x, o); one || e != api.OK {
				t.Error(i, one, e)
			}
			if y, ok := wrap.Reach(x, 0); !ok || y != x {
				t.Error(i, y, ok)
			}
		}
	}
}
