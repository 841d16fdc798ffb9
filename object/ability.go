package object

import (
	"slices"

	"tenon/api"
	"tenon/names"
	"tenon/value"
)

// holds is what an interface holds. Only a nil Thing is known to be hollow: what another type's nil does is its own affair.
func holds(o api.Object) int {
	switch x := o.(type) {
	case nil:
		return api.Nothing
	case *Thing:
		if x == nil {
			return api.Hollow
		}
	}
	return api.Something
}

// as is what an interface holds as a T, if it is one; none of its methods is called.
func as[T any](o any) (T, bool) {
	if v, ok := o.(T); ok {
		return v, true
	}
	var none T
	return none, false
}

// must leaves it to Go to panic, with Go's own error.
func must[T any](o any) T { return o.(T) }

// abilitiesOf is the numbers of an object's abilities, added up.
func abilitiesOf(o api.Object) int {
	n := 0
	if _, ok := o.(api.Versioned); ok {
		n += api.IsVersioned
	}
	if _, ok := o.(api.Indexed); ok {
		n += api.IsIndexed
	}
	if _, ok := o.(api.Owned); ok {
		n += api.IsOwned
	}
	if _, ok := o.(api.Lazy); ok {
		n += api.IsLazy
	}
	return n
}

// versionOf is what an object tells of its class and version; value's rule of a record's is that of these, too. Both are asked ahead of it, as a panic of either comes first.
func versionOf(o api.Versioned) (string, int, api.Errno) {
	var r api.Record
	if e := safely(func() { r.Class, r.Version = o.Class(), o.Version() }); e != api.OK {
		return "", 0, e
	}
	if _, e := value.Check(&r); e != api.OK {
		return "", 0, e
	}
	return r.Class, r.Version, api.OK
}

// keysOf is copies of the keys that an object tells, each by itself, so that no two share memory.
func keysOf(o api.Indexed) ([]any, api.Errno) {
	var told []any
	if e := safely(func() { told = o.Keys() }); e != api.OK {
		return nil, e
	}
	if len(told) > api.MaxItems {
		return nil, api.ErrLong
	}
	keys := make([]any, len(told))
	for i, key := range told {
		c, e := value.Copy(key)
		if e != api.OK {
			return nil, e
		}
		keys[i] = c
	}
	return keys, api.OK
}

// ownerOf is the owner that an object tells.
func ownerOf(o api.Owned) (string, api.Errno) {
	owner := ""
	if e := safely(func() { owner = o.Owner() }); e != api.OK {
		return "", e
	}
	if !names.Is(owner) {
		return "", api.ErrName
	}
	return owner, api.OK
}

// got is a copy of what an object answers under a name.
func got(o api.Object, name string) (any, bool, api.Errno) {
	var told any
	has := false
	if e := safely(func() { told, has = o.Get(name) }); e != api.OK || !has {
		return nil, false, e
	}
	c, e := value.Copy(told)
	if e != api.OK {
		return nil, false, e
	}
	return c, true, api.OK
}

// inOrder is the same names, rising.
func inOrder(list []string) ([]string, api.Errno) {
	rising := slices.Sorted(slices.Values(list))
	for i, name := range rising {
		if !names.Is(name) || i > 0 && name == rising[i-1] {
			return nil, api.ErrName
		}
	}
	if len(rising) > api.MaxItems {
		return nil, api.ErrLong
	}
	return rising, api.OK
}

// fieldsOf is what an object has of names, one asked behind the other.
func fieldsOf(o api.Object, names []string) (api.Dict, api.Errno) {
	var fields api.Dict
	for _, name := range names {
		v, has, e := Ask(o, name)
		if e != api.OK {
			return nil, e
		}
		if has {
			fields = append(fields, api.Field{Name: name, Value: v})
		}
	}
	return fields, api.OK
}
