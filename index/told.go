package index

import (
	"tenon/api"
	"tenon/object"
	"tenon/path"
)

// told is what an object comes to: its identity, whether it is of the index, and if so, its pairs.
type told struct {
	id    api.Ref
	of    bool
	pairs []*pair
}

// toldBy asks an object for what it comes to. Its methods may use the index meanwhile: what is kept is looked at only behind this.
func (x *Index) toldBy(o api.Object) (told, api.Errno) {
	if object.Holds(o) != api.Something {
		return told{}, api.ErrNil
	}
	id, e := identity(o)
	if e != api.OK {
		return told{}, e
	}
	of, e := x.isOf(o)
	if e != api.OK || !of {
		return told{id: id}, e
	}
	keys, of, e := x.keysOf(o)
	if e != api.OK || !of {
		return told{id: id}, e
	}
	return told{id, true, pairsOf(id, keys)}, api.OK
}

// identity is an object's identity, which is not none.
func identity(o api.Object) (api.Ref, api.Errno) {
	var id api.Ref
	if kind, _ := object.Try(func() { id = o.ID() }); kind != api.NoPanic {
		return 0, api.ErrPanic
	}
	if id == 0 {
		return 0, api.ErrArg
	}
	return id, api.OK
}

// isOf tells whether an object is of the class that the index is of; one that has no class is of none that has a name.
func (x *Index) isOf(o api.Object) (bool, api.Errno) {
	if x.def.Class == "" {
		return true, api.OK
	}
	class, _, _, e := object.VersionOf(o)
	return class == x.def.Class, e
}

// keysOf is the keys that an object tells itself, or else what lies at the index's way; false, if it has none and is not of the index.
func (x *Index) keysOf(o api.Object) ([]any, bool, api.Errno) {
	keys, tells, e := object.KeysOf(o)
	if tells || e != api.OK {
		return keys, true, e
	}
	key, lies, e := x.keyOf(o)
	if e != api.OK || !lies && x.def.Some {
		return nil, false, e
	}
	return []any{key}, true, api.OK
}

// keyOf is what lies at the index's way in an object; nil and false, if nothing does.
func (x *Index) keyOf(o api.Object) (any, bool, api.Errno) {
	v, has, e := object.Ask(o, x.first)
	if e != api.OK || !has {
		return nil, false, e
	}
	key, e := path.Get(v, x.rest)
	return key, e == api.OK, api.OK
}
