package wrap_test

import (
	"slices"
	"testing"

	"tenon/api"
	"tenon/sample"
	"tenon/wrap"
)

// P11.3: where nothing panics, a Guard has and answers what its object does.
func TestGuardOrdinary(t *testing.T) {
	for set := range 16 {
		s := numbered(6)
		x := mustGuard(t, sample.Able(set, s))
		mustHave(t, x, set)
		mustLog(t, s)
		for _, m := range methodsOf(set) {
			*s = *numbered(6)
			mustAnswer(t, x, m, wanted(m, 6))
			mustLog(t, s, m.logged)
		}
	}
}

// P11.3: whatever a method panics with, the Guard answers as it should; the method was called once, and the others answer as ever.
func TestGuardPanics(t *testing.T) {
	for _, thrown := range sample.Thrown() {
		for set := range 16 {
			s := numbered(6)
			x := mustGuard(t, sample.Able(set, s))
			for _, throws := range methodsOf(set) {
				for _, m := range methodsOf(set) {
					*s = *numbered(6)
					s.Meanwhile = throwing(throws.name, thrown)
					if m.name == throws.name {
						mustAnswer(t, x, m, m.guarded)
					} else {
						mustAnswer(t, x, m, wanted(m, 6))
					}
					mustLog(t, s, m.logged)
				}
			}
		}
	}
}

// P11.3: a Guard within is as good as one at the outside; a panic of what lies around it goes through.
func TestGuardWithin(t *testing.T) {
	s := numbered(8)
	o := sample.Able(all, s)
	outside := mustGuard(t, mustShow(t, mustCount(t, mustAdd(t, mustShow(t, o, 3), o), silent), all))
	within := mustShow(t, mustCount(t, mustAdd(t, mustShow(t, mustGuard(t, o), 3), mustGuard(t, o)), silent), all)
	twice := mustGuard(t, mustGuard(t, o))
	for _, x := range []api.Object{outside, within, twice} {
		mustHave(t, x, all)
		for _, m := range methods() {
			s.Meanwhile = throwing(m.name, "at once")
			mustAnswer(t, x, m, m.guarded)
			mustLog(t, s, m.logged)
		}
	}
	for _, m := range methods() {
		loud := mustCount(t, mustGuard(t, o), throwing(m.name, "told"))
		mustPanic(t, loud, m, "told")
		mustLog(t, s)
	}
}

// P11.3: what is Add's second one is guarded by a Guard around both, and not by one around the first.
func TestGuardOfAdded(t *testing.T) {
	by := numbered(2)
	o := sample.Able(0, numbered(1))
	both := mustGuard(t, mustAdd(t, o, sample.Able(all, by)))
	first := mustAdd(t, mustGuard(t, o), sample.Able(all, by))
	for _, m := range methods() {
		if by.Meanwhile = throwing(m.name, 5); m.of != 0 {
			mustAnswer(t, both, m, m.guarded)
			mustPanic(t, first, m, 5)
			mustLog(t, by, m.logged, m.logged)
		}
	}
}

// late answers, and panics behind its answer.
type late struct{ sample.Sharp }

func (l *late) ID() (id api.Ref)                  { defer panic(1); return 5 }
func (l *late) Get(name string) (v any, has bool) { defer panic(1); return name, true }
func (l *late) Class() (class string)             { defer panic(1); return "late" }
func (l *late) Version() (version int)            { defer panic(1); return 3 }
func (l *late) Keys() (keys []any)                { defer panic(1); return []any{"k"} }
func (l *late) Owner() (owner string)             { defer panic(1); return "ann" }
func (l *late) Give(to string) (e api.Errno)      { defer panic(1); l.N++; return api.ErrFull }
func (l *late) Loaded() (loaded bool)             { defer panic(1); return true }
func (l *late) Load() (e api.Errno)               { defer panic(1); l.N++; return api.OK }

// P11.3: an answer that is given ahead of a panic does not count; what was done by then stays.
func TestGuardLate(t *testing.T) {
	l := &late{}
	x := mustGuard(t, l)
	for _, m := range methods() {
		mustAnswer(t, x, m, m.guarded)
	}
	if l.N != 2 {
		t.Error(l.N)
	}
	mustHave(t, x, all)
}

// P11.3: a foreign nil pointer whose methods panic is guarded as any other; one whose methods do not is heard.
func TestGuardForeignNil(t *testing.T) {
	var sharp *sample.Sharp
	var blunt *sample.Blunt
	hard, soft := mustGuard(t, sharp), mustGuard(t, blunt)
	empty := mustGuard(t, struct{ api.Lazy }{})
	mustHave(t, hard, all)
	mustHave(t, soft, all)
	mustHave(t, empty, api.IsLazy)
	for _, m := range methods() {
		mustAnswer(t, hard, m, m.guarded)
		mustAnswer(t, soft, m, m.call(blunt))
	}
	for _, m := range methodsOf(api.IsLazy) {
		mustAnswer(t, empty, m, m.guarded)
	}
}

// Example 3, and that a Guard is as deep as any other.
func TestExampleGuard(t *testing.T) {
	s := numbered(1)
	s.Meanwhile = throwing("Get", "x")
	o := sample.Able(0, s)
	x := mustGuard(t, o)
	if v, has := x.Get("a"); v != nil || has || x.ID() != 1 {
		t.Error(v, has)
	}
	y := mustGuard(t, mustShow(t, o, 15))
	if wrap.Deep(y) != 2 || wrap.Root(y) != o {
		t.Error(wrap.Deep(y), wrap.Root(y))
	}
}

// A method may call its own wrapper: each call is guarded by itself.
func TestGuardCallsWithin(t *testing.T) {
	s := numbered(1)
	x := mustGuard(t, sample.Able(all, s))
	var answers []string
	s.Meanwhile = func(string) {
		if len(s.Log) < 20 {
			answers = append(answers, methods()[len(s.Log)%2].call(x))
		}
		panic("enough")
	}
	if x.ID() != 0 || len(s.Log) != 20 || len(answers) != 19 || slices.ContainsFunc(answers, func(s string) bool { return s != "0" && s != "<nil> false" }) {
		t.Error(answers, s.Log)
	}
}
