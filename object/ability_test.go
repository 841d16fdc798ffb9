package object_test

import (
	"testing"

	"tenon/api"
	"tenon/object"
	"tenon/sample"
)

// near is much like what has abilities: its methods' names are theirs, but each is not quite as it must be, or the other one lacks.
type near struct{ n int }

func (n near) ID() api.Ref            { return 1 }
func (n near) Get(string) (any, bool) { return nil, false }
func (n near) Class() string          { panic("not to be called") }
func (n near) Version() int64         { panic("not to be called") }
func (n near) Keys() []string         { panic("not to be called") }
func (n near) Give(string) api.Errno  { panic("not to be called") }
func (n near) Loaded() bool           { panic("not to be called") }
func (n near) Load()                  { panic("not to be called") }

// nearly has of each ability the other half.
type nearly struct{ n int }

func (n nearly) ID() api.Ref            { return 1 }
func (n nearly) Get(string) (any, bool) { return nil, false }
func (n nearly) Class() []byte          { panic("not to be called") }
func (n nearly) Version() int           { panic("not to be called") }
func (n nearly) Owner() string          { panic("not to be called") }
func (n nearly) Give(string) error      { panic("not to be called") }
func (n nearly) Load() api.Errno        { panic("not to be called") }

// byPointer has its ability only where a pointer to it is held.
type byPointer struct{ near }

func (b *byPointer) Version() int { return 7 }
func (b byPointer) Keys() []any   { return nil }

// twofold has Owner at two places as deep: so it has none.
type (
	ownsA   struct{}
	ownsB   struct{}
	twofold struct {
		near
		ownsA
		ownsB
	}
)

func (o ownsA) Owner() string { return "a" }
func (o ownsB) Owner() string { return "b" }

// mustHave holds the abilities that an object tells, and what it is asserted to be, against what is wanted.
func mustHave(t *testing.T, o api.Object, want int) {
	t.Helper()
	if n, e := object.Abilities(o); n != want || e != api.OK {
		t.Errorf("Abilities(%T): %d, %d, want %d", o, n, e, want)
	}
	v, isV := object.As[api.Versioned](o)
	i, isI := object.As[api.Indexed](o)
	w, isO := object.As[api.Owned](o)
	l, isL := object.As[api.Lazy](o)
	for ability, x := range map[int]struct {
		is   bool
		same bool
	}{
		api.IsVersioned: {isV, v != nil && api.Object(v) == o}, api.IsIndexed: {isI, i != nil && api.Object(i) == o},
		api.IsOwned: {isO, w != nil && api.Object(w) == o}, api.IsLazy: {isL, l != nil && api.Object(l) == o},
	} {
		if has := want&ability != 0; x.is != has || x.same != has {
			t.Errorf("As(%T) to %d: %v, the object itself: %v, want %v", o, ability, x.is, x.same, has)
		}
	}
	for ability, must := range map[int]func(){
		api.IsVersioned: func() { v = object.Must[api.Versioned](o) }, api.IsIndexed: func() { i = object.Must[api.Indexed](o) },
		api.IsOwned: func() { w = object.Must[api.Owned](o) }, api.IsLazy: func() { l = object.Must[api.Lazy](o) },
	} {
		kind, e := object.Try(must)
		if has := want&ability != 0; has && (kind != api.NoPanic || e != api.OK) || !has && (kind != api.RuntimePanic || e != api.ErrPanic) {
			t.Errorf("Must(%T) to %d: %d, %d", o, ability, kind, e)
		}
	}
}

// P10.2, P10.4, P10.12: of each of the sixteen sets just that set is told, and none of the methods is called.
func TestSixteenSets(t *testing.T) {
	for set := range 16 {
		s := ordinary()
		s.Meanwhile = func(method string) { panic(method) }
		o := sample.Able(set, s)
		mustHave(t, o, set)
		if object.Holds(o) != api.Something {
			t.Error(set, object.Holds(o))
		}
		if one, e := object.One(o, o); !one || e != api.OK {
			t.Error(set, one, e)
		}
		mustLog(t, s)
	}
}

// P10.2: an object has an ability if what is held has all its methods, as they must be; nothing else counts.
func TestAlmostAble(t *testing.T) {
	mustHave(t, &near{}, 0)
	mustHave(t, nearly{}, 0)
	b := &byPointer{}
	mustHave(t, b, api.IsVersioned+api.IsIndexed)
	if n, e := object.Abilities(*b); n != api.IsIndexed || e != api.OK {
		t.Error(n, e)
	}
	mustHave(t, &twofold{}, 0)
	mustHave(t, thing(t, 3), 0)
	s := ordinary()
	mustHave(t, struct{ api.Object }{sample.Able(all, s)}, 0) // what is held by what is held does not count
	mustHave(t, struct{ api.Versioned }{sample.Able(all, s).(api.Versioned)}, api.IsVersioned)
	mustHave(t, struct{ api.Lazy }{}, api.IsLazy)
	mustHave(t, struct{ *sharp }{}, all)
	mustHave(t, struct{ *object.Thing }{}, 0)
	mustLog(t, s)
}

// P10.4: As and Must go to every type: one that it is, one that it is not, any interface.
func TestAsOtherTypes(t *testing.T) {
	x := thing(t, 7)
	if y, ok := object.As[*object.Thing](x); y != x || !ok {
		t.Error(y, ok)
	}
	if y, ok := object.As[any](x); y != any(x) || !ok {
		t.Error(y, ok)
	}
	if y, ok := object.As[api.Object](x); y != api.Object(x) || !ok {
		t.Error(y, ok)
	}
	if y, ok := object.As[interface{ ID() api.Ref }](x); !ok || y.ID() != 7 {
		t.Error(y, ok)
	}
	if y, ok := object.As[interface{ Class() string }](&blunt{}); !ok || y.Class() != "blunt" {
		t.Error(y, ok)
	}
	if y, ok := object.As[*sharp](x); y != nil || ok {
		t.Error(y, ok)
	}
	if y, ok := object.As[int](x); y != 0 || ok {
		t.Error(y, ok)
	}
	if y, ok := object.As[string](x); y != "" || ok {
		t.Error(y, ok)
	}
	if y, ok := object.As[near](near{}); y != (near{}) || !ok {
		t.Error(y, ok)
	}
	if y, ok := object.As[near](&near{}); y != (near{}) || ok {
		t.Error(ok)
	}
	if y, ok := object.As[struct{ a [3]int }](x); y.a != [3]int{} || ok {
		t.Error(y, ok)
	}
	if object.Must[*object.Thing](x) != x || object.Must[any](x) != any(x) || object.Must[api.Object](x) != api.Object(x) || object.Must[near](near{}) != (near{}) {
		t.Error("Must answers another one")
	}
	for i, must := range []func(){
		func() { object.Must[*sharp](x) }, func() { object.Must[int](x) }, func() { object.Must[object.Thing](x) }, func() { object.Must[near](&near{}) }, func() { object.Must[error](x) },
		func() { object.Must[interface{ Class() int }](&blunt{}) },
	} {
		mustThrow(t, i, must)
	}
}

// mustThrow is of a function that panics with Go's own error.
func mustThrow(t *testing.T, name any, does func()) {
	t.Helper()
	defer func() {
		t.Helper()
		thrown := recover()
		if e, ok := thrown.(interface {
			error
			RuntimeError()
		}); !ok || e.Error() == "" {
			t.Error(name, thrown)
		}
	}()
	does()
	t.Error(name, "no panic")
}

// P10.4: nothing at all is no T, whatever T is; a nil Thing is none for As, but for Must it is asserted as any other.
func TestAsOfNil(t *testing.T) {
	var hollow *object.Thing
	for i, o := range []api.Object{nil, hollow} {
		a, is := object.As[any](o)
		b, isObject := object.As[api.Object](o)
		c, isThing := object.As[*object.Thing](o)
		d, isOwned := object.As[api.Owned](o)
		e, isInt := object.As[int](o)
		if a != nil || b != nil || c != nil || d != nil || e != 0 || is || isObject || isThing || isOwned || isInt {
			t.Error(i, a, b, c, d, e, is, isObject, isThing, isOwned, isInt)
		}
		mustThrow(t, i, func() { object.Must[api.Owned](o) })
		mustThrow(t, i, func() { object.Must[api.Versioned](o) })
		mustThrow(t, i, func() { object.Must[api.Indexed](o) })
		mustThrow(t, i, func() { object.Must[api.Lazy](o) })
		mustThrow(t, i, func() { object.Must[*sharp](o) })
		mustThrow(t, i, func() { object.Must[int](o) })
	}
	mustThrow(t, "any", func() { object.Must[any](nil) })
	mustThrow(t, "object", func() { object.Must[api.Object](nil) })
	mustThrow(t, "thing", func() { object.Must[*object.Thing](nil) })
	if x := object.Must[*object.Thing](hollow); x != nil {
		t.Error(x)
	}
	if x := object.Must[api.Object](hollow); x != api.Object(hollow) {
		t.Error(x)
	}
	if x := object.Must[any](hollow); x != any(hollow) {
		t.Error(x)
	}
}

// P10.2: what is not something has no abilities to tell of.
func TestAbilitiesOfNil(t *testing.T) {
	var hollow *object.Thing
	for _, o := range []api.Object{nil, hollow} {
		if n, e := object.Abilities(o); n != 0 || e != api.ErrNil {
			t.Error(n, e)
		}
	}
	mustHave(t, (*sharp)(nil), all)
	mustHave(t, (*blunt)(nil), all)
	mustHave(t, (*near)(nil), 0)
}

// loose can't be compared; loosely can only where what it holds can.
type (
	loose   struct{ n []int }
	loosely struct{ holds any }
	listed  []int
	mapped  map[string]int
	asked   func()
)

func (l loose) ID() api.Ref              { return 1 }
func (l loose) Get(string) (any, bool)   { return nil, false }
func (l loosely) ID() api.Ref            { return 1 }
func (l loosely) Get(string) (any, bool) { return nil, false }
func (l listed) ID() api.Ref             { return 1 }
func (l listed) Get(string) (any, bool)  { return nil, false }
func (m mapped) ID() api.Ref             { return 1 }
func (m mapped) Get(string) (any, bool)  { return nil, false }
func (a asked) ID() api.Ref              { return 1 }
func (a asked) Get(string) (any, bool)   { return nil, false }

// P10.3, example 3: whether two are one is Go's ==; where that panics, it is told.
func TestOne(t *testing.T) {
	x, y := thing(t, 7, sample.Field("a", true)), thing(t, 7, sample.Field("a", true))
	var hollow *object.Thing
	l := &loose{}
	for i, p := range []struct {
		a, b api.Object
		want bool
		e    api.Errno
	}{
		{nil, nil, true, api.OK}, {nil, x, false, api.OK}, {nil, hollow, false, api.OK}, {hollow, hollow, true, api.OK}, {hollow, x, false, api.OK}, {x, x, true, api.OK}, {x, y, false, api.OK}, {hollow, (*sharp)(nil), false, api.OK}, {(*sharp)(nil), (*sharp)(nil), true, api.OK},
		{loose{}, loose{}, false, api.ErrKind}, {loose{}, x, false, api.OK}, {loose{}, nil, false, api.OK}, {loose{}, hollow, false, api.OK}, {loose{}, listed{}, false, api.OK}, {l, l, true, api.OK}, {l, &loose{}, false, api.OK}, {l, loose{}, false, api.OK},
		{listed{}, listed{}, false, api.ErrKind}, {listed(nil), listed(nil), false, api.ErrKind}, {mapped{}, mapped{}, false, api.ErrKind}, {asked(nil), asked(nil), false, api.ErrKind}, {asked(nil), mapped{}, false, api.OK},
		{loosely{}, loosely{}, true, api.OK}, {loosely{1}, loosely{1}, true, api.OK}, {loosely{1}, loosely{2}, false, api.OK}, {loosely{1}, loosely{"1"}, false, api.OK}, {loosely{[]int{}}, loosely{1}, false, api.OK}, {loosely{[]int{}}, loosely{[]int{}}, false, api.ErrKind}, {loosely{loosely{listed{}}}, loosely{loosely{listed{}}}, false, api.ErrKind},
		{near{}, near{}, true, api.OK}, {near{}, &near{}, false, api.OK},
	} {
		for _, turned := range [][2]api.Object{{p.a, p.b}, {p.b, p.a}} {
			if one, e := object.One(turned[0], turned[1]); one != p.want || e != p.e {
				t.Errorf("%d: %v, %d, want %v, %d", i, one, e, p.want, p.e)
			}
		}
	}
	s, other := ordinary(), ordinary()
	for set := range 16 {
		for set2 := range 16 {
			if one, e := object.One(sample.Able(set, s), sample.Able(set2, s)); one != (set == set2) || e != api.OK {
				t.Error(set, set2, one, e)
			}
		}
		if one, e := object.One(sample.Able(set, s), sample.Able(set, other)); one || e != api.OK {
			t.Error(set, one, e)
		}
	}
	mustLog(t, s)
}
