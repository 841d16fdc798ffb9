package wrap_test

import (
	"slices"
	"testing"

	"tenon/api"
	"tenon/object"
	"tenon/sample"
	"tenon/wrap"
)

// P11.4: each method is told of, once, by its name, ahead of the object's own, which answers.
func TestCount(t *testing.T) {
	for set := range 16 {
		s := numbered(3)
		var log []string
		x := mustCount(t, sample.Able(set, s), func(method string) { log = append(log, "told "+method) })
		mustHave(t, x, set)
		mustLog(t, s)
		for _, m := range methodsOf(set) {
			*s = *numbered(3)
			s.Meanwhile = func(method string) { log = append(log, method) }
			mustAnswer(t, x, m, wanted(m, 3))
			mustLog(t, s, m.logged)
			if !slices.Equal(log, []string{"told " + m.name, m.name}) {
				t.Errorf("%s: %q", m.name, log)
			}
			log = nil
		}
	}
}

// P11.4: nobody to tell is refused, and nobody is asked.
func TestCountNobody(t *testing.T) {
	for set := range 16 {
		s := numbered(1)
		x, e := wrap.Count(sample.Able(set, s), nil)
		mustNot(t, set, x, e, api.ErrArg)
		mustLog(t, s)
	}
}

// P11.4: whoever is told may panic: it goes through, whatever it is, and the object is not asked; so does a panic of the object, which was told of.
func TestCountPanics(t *testing.T) {
	for _, thrown := range sample.Thrown() {
		for set := range 16 {
			s := numbered(1)
			var told []string
			loud := mustCount(t, sample.Able(set, s), func(method string) { told = append(told, method); panic(thrown) })
			calm := mustCount(t, sample.Able(set, s), func(method string) { told = append(told, method) })
			for _, m := range methodsOf(set) {
				s.Meanwhile = nil
				mustPanic(t, loud, m, thrown)
				mustLog(t, s)
				s.Meanwhile = throwing(m.name, thrown)
				mustPanic(t, calm, m, thrown)
				mustLog(t, s, m.logged)
				if !slices.Equal(told, []string{m.name, m.name}) {
					t.Errorf("%s: %q", m.name, told)
				}
				told = nil
			}
		}
	}
}

// P11.4: one that tells within another one tells behind it; what is hidden between is told of by none.
func TestCountWithinCount(t *testing.T) {
	s := numbered(2)
	var log []string
	tells := func(who string) func(string) {
		return func(method string) { log = append(log, who+" "+method) }
	}
	s.Meanwhile = tells("o")
	x := mustCount(t, mustShow(t, mustCount(t, mustGuard(t, mustCount(t, sample.Able(all, s), tells("c"))), tells("b")), api.IsVersioned+api.IsLazy), tells("a"))
	mustHave(t, x, api.IsVersioned+api.IsLazy)
	for _, m := range methodsOf(api.IsVersioned + api.IsLazy) {
		log = nil
		m.call(x)
		if !slices.Equal(log, []string{"a " + m.name, "b " + m.name, "c " + m.name, "o " + m.name}) {
			t.Errorf("%s: %q", m.name, log)
		}
	}
}

// P11.4, P11.2: of two that were put together, only the one that is asked tells.
func TestCountOfAdded(t *testing.T) {
	for set := range 16 {
		var one, other []string
		x := mustAdd(t, mustCount(t, sample.Able(set, numbered(1)), func(m string) { one = append(one, m) }), mustCount(t, sample.Able(all, numbered(2)), func(m string) { other = append(other, m) }))
		for _, m := range methods() {
			m.call(x)
			told, still := one, other
			if m.of&set != m.of {
				told, still = other, one
			}
			if !slices.Equal(told, []string{m.name}) || len(still) > 0 {
				t.Errorf("%d %s: %q, %q", set, m.name, one, other)
			}
			one, other = nil, nil
		}
	}
}

// Whoever is told may ask the wrapper itself, on the same goroutine.
func TestCountCallsWithin(t *testing.T) {
	var x api.Object
	depth := 0
	s := numbered(4)
	x = mustCount(t, sample.Able(all, s), func(method string) {
		if depth++; depth < 10 {
			if _, ok := x.Get("b"); !ok {
				t.Error(depth)
			}
		}
	})
	mustAnswer(t, x, methods()[0], "4")
	if depth != 10 || len(s.Log) != 10 || s.Log[9] != "ID" || s.Log[0] != "Get b" {
		t.Error(depth, s.Log)
	}
}

// P11.4: the calls of layer 10 are told of as they are made through a wrapper: none more often than they should.
func TestCountAsked(t *testing.T) {
	s := numbered(4)
	s.Fails = api.OK
	var told []string
	x := mustCount(t, sample.Able(all, s), func(method string) { told = append(told, method) })
	if _, e := object.Record(x, []string{"b", "a"}); e != api.OK {
		t.Error(e)
	}
	if !slices.Equal(told, []string{"Class", "Version", "Loaded", "Load", "Get", "Loaded", "Get"}) {
		t.Error(told)
	}
	mustLog(t, s, "Class", "Version", "Loaded", "Load", "Get a", "Loaded", "Get b")
}
