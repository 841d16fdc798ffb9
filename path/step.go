package path

import (
	"slices"
	"strings"

	"tenon/api"
)

// fieldsOf is the fields of a dict or record; false of any other part.
func fieldsOf(part any) (api.Dict, bool) {
	switch x := part.(type) {
	case api.Dict:
		return x, true
	case *api.Record:
		return x.Fields, true
	}
	return nil, false
}

// find tells the number under which a step's value or field is in a part, or would come to be, and whether it is there.
func find(part any, step api.Step) (int, bool, api.Errno) {
	if step.At {
		l, ok := part.(api.List)
		if !ok {
			return 0, false, api.ErrInto
		}
		return step.Index, step.Index < len(l), api.OK
	}
	d, ok := fieldsOf(part)
	if !ok {
		return 0, false, api.ErrInto
	}
	n, there := slices.BinarySearchFunc(d, step.Name, func(f api.Field, name string) int { return strings.Compare(f.Name, name) })
	return n, there, api.OK
}

// findThere is the number of what must be there.
func findThere(part any, step api.Step) (int, api.Errno) {
	n, there, e := find(part, step)
	switch {
	case e != api.OK:
		return 0, e
	case there:
		return n, api.OK
	case step.At:
		return 0, api.ErrIndex
	}
	return 0, api.ErrNone
}

// slotOf is the place in a part to which a step leads.
func slotOf(part any, step api.Step) (*any, api.Errno) {
	n, e := findThere(part, step)
	if e != api.OK {
		return nil, e
	}
	if l, ok := part.(api.List); ok {
		return &l[n], api.OK
	}
	d, _ := fieldsOf(part)
	return &d[n].Value, api.OK
}

// reach is what lies at a way: the part itself, not a copy.
func reach(v any, way []api.Step) (any, api.Errno) {
	for _, step := range way {
		slot, e := slotOf(v, step)
		if e != api.OK {
			return nil, e
		}
		v = *slot
	}
	return v, api.OK
}
