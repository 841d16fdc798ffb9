package wrap_test

import (
	"fmt"
	"testing"

	"tenon/api"
	"tenon/object"
	"tenon/sample"
	"tenon/wrap"
)

// P11.2: of each set of the one with each of the other: what either has, is had; what the first one has goes to it, and only the rest to the second one.
func TestAddSixteenTimesSixteen(t *testing.T) {
	for first := range 16 {
		for second := range 16 {
			s, by := numbered(4), numbered(5)
			x := mustAdd(t, sample.Able(first, s), sample.Able(second, by))
			mustHave(t, x, first|second)
			mustLog(t, s)
			mustLog(t, by)
			for _, m := range methodsOf(first | second) {
				*s, *by = *numbered(4), *numbered(5)
				if m.of&first == m.of {
					mustAnswer(t, x, m, wanted(m, 4))
					mustLog(t, s, m.logged)
					mustLog(t, by)
				} else {
					mustAnswer(t, x, m, wanted(m, 5))
					mustLog(t, s)
					mustLog(t, by, m.logged)
				}
			}
		}
	}
}

// P11.2: a panic of either goes through, whatever it is, and the other one is not asked instead.
func TestAddPanics(t *testing.T) {
	for _, thrown := range sample.Thrown() {
		for first := range 16 {
			s, by := numbered(1), numbered(2)
			x := mustAdd(t, sample.Able(first, s), sample.Able(all, by))
			for _, m := range methods() {
				s.Meanwhile, by.Meanwhile = throwing(m.name, thrown), throwing(m.name, thrown)
				mustPanic(t, x, m, thrown)
				if m.of&first == m.of {
					mustLog(t, s, m.logged)
					mustLog(t, by)
				} else {
					mustLog(t, s)
					mustLog(t, by, m.logged)
				}
			}
		}
	}
}

// P11.2: an object may be added to itself, and an ability that was hidden may be added again.
func TestAddSelf(t *testing.T) {
	for set := range 16 {
		s := numbered(3)
		o := sample.Able(set, s)
		again := mustAdd(t, mustShow(t, o, 0), o)
		for _, x := range []api.Object{mustAdd(t, o, o), again} {
			mustHave(t, x, set)
			for _, m := range methodsOf(set) {
				*s = *numbered(3)
				mustAnswer(t, x, m, wanted(m, 3))
				mustLog(t, s, m.logged)
			}
		}
	}
}

// P11.2: several may be added, one behind the other: what an earlier one has, it keeps.
func TestAddSeveral(t *testing.T) {
	o := sample.Able(api.IsOwned, numbered(1))
	for i, set := range []int{api.IsOwned, api.IsIndexed + api.IsOwned, api.IsVersioned + api.IsIndexed, all} {
		o = mustAdd(t, o, sample.Able(set, numbered(i+2)))
	}
	mustHave(t, o, all)
	whose := map[int]int{0: 1, api.IsOwned: 1, api.IsIndexed: 3, api.IsVersioned: 4, api.IsLazy: 5}
	for _, m := range methods() {
		mustAnswer(t, o, m, wanted(m, whose[m.of]))
	}
}

// All four, P11.2: neither of the two may be nothing, whichever the other is.
func TestAddNothing(t *testing.T) {
	o := sample.Able(all, numbered(1))
	deep := o
	for range 64 {
		deep = mustGuard(t, deep)
	}
	for _, none := range []api.Object{nil, hollow} {
		for i, p := range [][2]api.Object{{none, o}, {o, none}, {none, nil}, {none, hollow}, {deep, none}, {none, deep}} {
			x, e := wrap.Add(p[0], p[1])
			mustNot(t, i, x, e, api.ErrNil)
		}
	}
}

// A foreign nil pointer is something, as the one and as the other.
func TestAddForeignNil(t *testing.T) {
	var sharp *sample.Sharp
	var blunt *sample.Blunt
	x := mustAdd(t, blunt, sharp)
	mustHave(t, x, all)
	y := mustAdd(t, loose{[]int{1, 2}}, blunt)
	mustHave(t, y, all)
	z := mustAdd(t, loose{}, sharp)
	mustHave(t, z, all)
	for _, m := range methods() {
		mustAnswer(t, x, m, m.call(blunt))
		if m.of != 0 {
			mustAnswer(t, y, m, m.call(blunt))
			if kind, _ := object.Try(func() { m.call(z) }); kind != api.RuntimePanic {
				t.Error(m.name, kind)
			}
		}
	}
	if y.ID() != 2 {
		t.Error(y.ID())
	}
}

// Example 2.
func TestExampleAdd(t *testing.T) {
	o, by := numbered(1), numbered(2)
	x := mustAdd(t, sample.Able(1, o), sample.Able(3, by))
	mustHave(t, x, 3)
	told := fmt.Sprint(x.(api.Versioned).Class(), x.(api.Indexed).Keys())
	if told != fmt.Sprint(o.Class, by.Keys) {
		t.Error(told)
	}
	mustLog(t, o, "Class")
	mustLog(t, by, "Keys")
}
