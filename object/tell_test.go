package object_test

import (
	"math"
	"testing"

	"tenon/api"
	"tenon/sample"
)

// able is objects of all sets that have an ability, or of all that have it not, by one script.
func able(s *sample.Script, ability int, has bool) []api.Object {
	var l []api.Object
	for set := range 16 {
		if (set&ability != 0) == has {
			l = append(l, sample.Able(set, s))
		}
	}
	return l
}

// P10.6, P10.14: class and version as they are told, each asked once, the class first; nothing is asked of one that is not Versioned.
func TestVersionOf(t *testing.T) {
	s := ordinary()
	for _, o := range able(s, api.IsVersioned, true) {
		for _, class := range sample.GoodNames() {
			for _, version := range []int{1, 2, 999, api.MaxVersion} {
				s.Class, s.Version = class, version
				mustVersion(t, o, class, version, true, api.OK)
				mustLog(t, s, "Class", "Version")
			}
		}
	}
	for _, o := range able(s, api.IsVersioned, false) {
		mustVersion(t, o, "", 0, false, api.OK)
		mustLog(t, s)
	}
}

// P10.6: a class that is no name is ErrName, a version that is out of its range ErrArg, in that order; it is Versioned all the same. Both are asked whatever they are.
func TestVersionOfWrong(t *testing.T) {
	s := ordinary()
	for _, o := range able(s, api.IsVersioned, true) {
		for _, version := range []int{math.MinInt, -1, 0, api.MaxVersion + 1, math.MaxInt} {
			s.Class, s.Version = "p", version
			mustVersion(t, o, "", 0, true, api.ErrArg)
			s.Class = ""
			mustVersion(t, o, "", 0, true, api.ErrName)
			mustLog(t, s, "Class", "Version", "Class", "Version")
		}
		for _, class := range sample.BadNames() {
			s.Class, s.Version = class, 1
			mustVersion(t, o, "", 0, true, api.ErrName)
			mustLog(t, s, "Class", "Version")
		}
	}
}

// P10.7, P10.14: keys of any kind, in their order, one and the same twice, too; asked once, and only of one that is Indexed.
func TestKeysOf(t *testing.T) {
	s := ordinary()
	for _, o := range able(s, api.IsIndexed, true) {
		for _, keys := range [][]any{nil, {}, {nil}, {"b", "a", "b"}, sample.Rising(), sample.Rich(), sample.Items(api.MaxItems)} {
			s.Keys = keys
			mustKeys(t, o, keys, true, api.OK)
			mustLog(t, s, "Keys")
		}
	}
	for _, o := range able(s, api.IsIndexed, false) {
		mustKeys(t, o, nil, false, api.OK)
		mustLog(t, s)
	}
}

// P10.7: more than 4096 keys are ErrLong, whatever they are; else the first that can't be tells its error.
func TestKeysOfWrong(t *testing.T) {
	s := ordinary()
	for _, o := range able(s, api.IsIndexed, true) {
		for _, n := range []int{api.MaxItems + 1, api.MaxItems + 2, 3 * api.MaxItems} {
			s.Keys = sample.Items(n)
			mustKeys(t, o, nil, true, api.ErrLong)
			s.Keys[0], s.Keys[n-1] = 7, sample.Nobody()
			mustKeys(t, o, nil, true, api.ErrLong)
			mustLog(t, s, "Keys", "Keys")
		}
		s.Keys = append(sample.Items(api.MaxItems-2), 7, sample.Nobody())
		mustKeys(t, o, nil, true, api.ErrKind)
		s.Keys = []any{"a", sample.Nobody(), 7}
		mustKeys(t, o, nil, true, api.ErrNil)
		mustLog(t, s, "Keys", "Keys")
	}
	o := sample.Able(api.IsIndexed, s)
	for _, w := range sample.Wrongs() {
		for _, keys := range [][]any{{w.V}, {nil, w.V}, {w.V, nil}, {int64(1), "x", w.V, func() {}}} {
			s.Keys = keys
			mustKeys(t, o, nil, true, w.Why)
		}
	}
}

// P10.7: each key is a value by itself: as deep and with as many parts as a value may have, all together more than that.
func TestGreatKeys(t *testing.T) {
	s := ordinary()
	s.Keys = []any{sample.Within(api.MaxDepth, "x"), sample.Numbered(api.MaxNodes-1, "x"), sample.Numbered(api.MaxNodes-1, "y"), sample.WithinFields(api.MaxDepth, "x")}
	mustKeys(t, sample.Able(all, s), s.Keys, true, api.OK)
	s.Keys = append(s.Keys, sample.Within(api.MaxDepth+1, nil))
	mustKeys(t, sample.Able(all, s), nil, true, api.ErrLong)
}

// P10.8, P10.14: the owner, asked once, and only of one that is Owned.
func TestOwnerOf(t *testing.T) {
	s := ordinary()
	for _, o := range able(s, api.IsOwned, true) {
		for _, name := range sample.GoodNames() {
			s.Owner = name
			mustOwner(t, o, name, true, api.OK)
			mustLog(t, s, "Owner")
		}
		for _, name := range sample.BadNames() {
			s.Owner = name
			mustOwner(t, o, "", true, api.ErrName)
			mustLog(t, s, "Owner")
		}
	}
	for _, o := range able(s, api.IsOwned, false) {
		mustOwner(t, o, "", false, api.OK)
		mustLog(t, s)
	}
}

// P10.8, P10.14: Give is called once with the name, and what it answers is told, whatever number that is.
func TestGive(t *testing.T) {
	s := ordinary()
	for _, o := range able(s, api.IsOwned, true) {
		for _, name := range sample.GoodNames() {
			s.Fails, s.Owner = api.OK, "ann"
			mustGive(t, o, name, api.OK)
			mustLog(t, s, "Give "+name)
			mustOwner(t, o, name, true, api.OK)
			mustLog(t, s, "Owner")
		}
		for _, e := range []api.Errno{api.ErrArg, api.ErrName, api.ErrNil, api.ErrPanic, api.ErrLack, api.ErrDenied, -1, 999} {
			s.Fails, s.Owner = e, "ann"
			mustGive(t, o, "bob", e)
			mustLog(t, s, "Give bob")
			mustOwner(t, o, "ann", true, api.OK)
			mustLog(t, s, "Owner")
		}
	}
}

// P10.8: a name that is none is ErrName, ahead of an ability that lacks; nobody is asked.
func TestGiveWrong(t *testing.T) {
	s := ordinary()
	for set := range 16 {
		o := sample.Able(set, s)
		for _, name := range sample.BadNames() {
			mustGive(t, o, name, api.ErrName)
		}
		if set&api.IsOwned == 0 {
			mustGive(t, o, "bob", api.ErrLack)
		}
	}
	for _, name := range sample.BadNames() {
		mustGive(t, thing(t, 1), name, api.ErrName)
		mustGive(t, nil, name, api.ErrNil)
	}
	mustLog(t, s)
	if s.Owner != "ann" {
		t.Error(s.Owner)
	}
}
