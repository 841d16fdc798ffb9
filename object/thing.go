package object

import (
	"slices"
	"strings"

	"tenon/api"
	"tenon/value"
)

// Thing is an object without any ability.
type Thing struct {
	id     api.Ref
	fields api.Dict // nobody else's
}

// New is a Thing of an identity, with values under names.
func New(id api.Ref, fields api.Dict) (*Thing, api.Errno) {
	if id == 0 {
		return nil, api.ErrArg
	}
	v, e := value.Copy(fields)
	if e != api.OK {
		return nil, e
	}
	own, _ := v.(api.Dict)
	return &Thing{id, own}, api.OK
}

// ID is its identity; of a nil Thing 0.
func (t *Thing) ID() api.Ref {
	if t == nil {
		return 0
	}
	return t.id
}

// Get is what it has under a name; a nil Thing has nothing.
func (t *Thing) Get(name string) (any, bool) {
	if t == nil {
		return nil, false
	}
	at, ok := slices.BinarySearchFunc(t.fields, name, func(f api.Field, name string) int { return strings.Compare(f.Name, name) })
	if !ok {
		return nil, false
	}
	v, _ := value.Copy(t.fields[at].Value)
	return v, true
}
