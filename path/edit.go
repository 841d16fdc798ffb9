package path

import (
	"slices"
	"strings"

	"tenon/api"
	"tenon/value"
)

// Edits are made on a copy of the whole, in place: nobody else has it, and with an error it is thrown away.

// edit is what is done at a way's last step to the part to which those ahead lead: it answers what the part becomes.
type edit func(part any, last api.Step) (any, api.Errno)

// copyFor is a copy of a value for an edit at a way that can be.
func copyFor(v any, way []api.Step) (any, api.Errno) {
	whole, e := value.Copy(v)
	if e != api.OK {
		return nil, e
	}
	if e := wayRule(way); e != api.OK {
		return nil, e
	}
	return whole, api.OK
}

// edited is the whole with an edit made at a way. The empty way has no last step, and no edit but those that put another whole there.
func edited(whole any, way []api.Step, by edit) (any, api.Errno) {
	switch len(way) {
	case 0:
		return nil, api.ErrArg
	case 1:
		return by(whole, way[0])
	}
	slot, e := slotOf(whole, way[0])
	if e != api.OK {
		return nil, e
	}
	if *slot, e = edited(*slot, way[1:], by); e != api.OK {
		return nil, e
	}
	return whole, api.OK
}

// checked hands on what came of edits, unless it can't be.
func checked(whole any, e api.Errno) (any, api.Errno) {
	if e != api.OK {
		return nil, e
	}
	if _, e := value.Check(whole); e != api.OK {
		return nil, e
	}
	return whole, api.OK
}

func setting(x any) edit {
	return func(part any, last api.Step) (any, api.Errno) {
		slot, e := slotOf(part, last)
		if e != api.OK {
			return nil, e
		}
		*slot = x
		return part, api.OK
	}
}

func adding(x any) edit {
	return func(part any, last api.Step) (any, api.Errno) {
		n, there, e := find(part, last)
		switch {
		case e != api.OK:
			return nil, e
		case there:
			return nil, api.ErrArg
		}
		return grown(part, n, last.Name, x)
	}
}

func putting(x any) edit {
	return func(part any, last api.Step) (any, api.Errno) {
		if _, there, _ := find(part, last); there {
			return setting(x)(part, last)
		}
		return adding(x)(part, last)
	}
}

func deleting(part any, last api.Step) (any, api.Errno) {
	n, e := findThere(part, last)
	if e != api.OK {
		return nil, e
	}
	return without(part, n), api.OK
}

func dropping(part any, last api.Step) (any, api.Errno) {
	n, e := findThere(part, last)
	if e != api.OK {
		return nil, e
	}
	if l, ok := part.(api.List); ok && n != len(l)-1 {
		return nil, api.ErrArg
	}
	return without(part, n), api.OK
}

// grown is a list with one more value behind all, or a dict or record with one more field as the nth.
func grown(part any, n int, name string, x any) (any, api.Errno) {
	if l, ok := part.(api.List); ok {
		if n > len(l) {
			return nil, api.ErrIndex
		}
		return append(l, x), api.OK
	}
	d, _ := fieldsOf(part)
	return withFields(part, slices.Insert(d, n, api.Field{Name: strings.Clone(name), Value: x})), api.OK
}

// without is a part that has lost its nth value or field.
func without(part any, n int) any {
	if l, ok := part.(api.List); ok {
		return slices.Delete(l, n, n+1)
	}
	d, _ := fieldsOf(part)
	return withFields(part, slices.Delete(d, n, n+1))
}

// withFields is a dict or record with these fields and no others.
func withFields(part any, d api.Dict) any {
	if r, ok := part.(*api.Record); ok {
		r.Fields = d
		return r
	}
	return d
}

// applied is the whole with one edit made. Whether the whole can be is not asked: an edit behind this one may make it so.
func applied(whole any, x api.Edit) (any, api.Errno) {
	if x.What != api.Set && x.What != api.Add && x.What != api.Drop {
		return nil, api.ErrArg
	}
	if e := wayRule(x.Way); e != api.OK {
		return nil, e
	}
	if x.What == api.Drop {
		return edited(whole, x.Way, dropping)
	}
	v, e := value.Copy(x.Value)
	switch {
	case e != api.OK:
		return nil, e
	case x.What == api.Add:
		return edited(whole, x.Way, adding(v))
	case len(x.Way) == 0:
		return v, api.OK
	}
	return edited(whole, x.Way, setting(v))
}
