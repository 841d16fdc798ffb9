package wrap

import (
	"tenon/api"
	"tenon/object"
)

// The sixteen types of wrappers, one for each set of abilities: V, I, O and L tell which of Versioned, Indexed, Owned and Lazy one shows.
type (
	shows  struct{ plain }
	showsV struct {
		plain
		versioned
	}
	showsI struct {
		plain
		indexed
	}
	showsVI struct {
		plain
		versioned
		indexed
	}
	showsO struct {
		plain
		owned
	}
	showsVO struct {
		plain
		versioned
		owned
	}
	showsIO struct {
		plain
		indexed
		owned
	}
	showsVIO struct {
		plain
		versioned
		indexed
		owned
	}
	showsL struct {
		plain
		lazy
	}
	showsVL struct {
		plain
		versioned
		lazy
	}
	showsIL struct {
		plain
		indexed
		lazy
	}
	showsVIL struct {
		plain
		versioned
		indexed
		lazy
	}
	showsOL struct {
		plain
		owned
		lazy
	}
	showsVOL struct {
		plain
		versioned
		owned
		lazy
	}
	showsIOL struct {
		plain
		indexed
		owned
		lazy
	}
	showsVIOL struct {
		plain
		versioned
		indexed
		owned
		lazy
	}
)

// parts is all that a wrapper may be made of; of an ability that nobody has it is zero, and is not shown.
type parts struct {
	p plain
	v versioned
	i indexed
	o owned
	l lazy
}

// partsOf is the parts of a wrapper around an object, whose abilities go to that.
func partsOf(o api.Object, does around) parts {
	return parts{p: plain{o, does}}.filledBy(o, does)
}

// filledBy is the parts with those abilities that nobody has yet going to an object, if it has them. None of its methods is called.
func (w parts) filledBy(o api.Object, does around) parts {
	if to, ok := object.As[api.Versioned](o); ok && w.v.to == nil {
		w.v = versioned{to, does}
	}
	if to, ok := object.As[api.Indexed](o); ok && w.i.to == nil {
		w.i = indexed{to, does}
	}
	if to, ok := object.As[api.Owned](o); ok && w.o.to == nil {
		w.o = owned{to, does}
	}
	if to, ok := object.As[api.Lazy](o); ok && w.l.to == nil {
		w.l = lazy{to, does}
	}
	return w
}

// showing is the wrapper that shows those abilities and no others. It is a pointer, so that each is its own, and can be compared whatever is inside.
func (w parts) showing(set int) api.Object {
	if set >= api.IsLazy {
		return w.showingLazy(set - api.IsLazy)
	}
	switch set {
	case api.IsVersioned:
		return &showsV{w.p, w.v}
	case api.IsIndexed:
		return &showsI{w.p, w.i}
	case api.IsVersioned + api.IsIndexed:
		return &showsVI{w.p, w.v, w.i}
	case api.IsOwned:
		return &showsO{w.p, w.o}
	case api.IsVersioned + api.IsOwned:
		return &showsVO{w.p, w.v, w.o}
	case api.IsIndexed + api.IsOwned:
		return &showsIO{w.p, w.i, w.o}
	case api.IsVersioned + api.IsIndexed + api.IsOwned:
		return &showsVIO{w.p, w.v, w.i, w.o}
	}
	return &shows{w.p}
}

// showingLazy is likewise one that shows Lazy, too.
func (w parts) showingLazy(set int) api.Object {
	switch set {
	case api.IsVersioned:
		return &showsVL{w.p, w.v, w.l}
	case api.IsIndexed:
		return &showsIL{w.p, w.i, w.l}
	case api.IsVersioned + api.IsIndexed:
		return &showsVIL{w.p, w.v, w.i, w.l}
	case api.IsOwned:
		return &showsOL{w.p, w.o, w.l}
	case api.IsVersioned + api.IsOwned:
		return &showsVOL{w.p, w.v, w.o, w.l}
	case api.IsIndexed + api.IsOwned:
		return &showsIOL{w.p, w.i, w.o, w.l}
	case api.IsVersioned + api.IsIndexed + api.IsOwned:
		return &showsVIOL{w.p, w.v, w.i, w.o, w.l}
	}
	return &showsL{w.p, w.l}
}
