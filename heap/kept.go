package heap

import (
	"slices"
	"strings"

	"tenon/api"
	"tenon/value"
)

// kept is a record as a heap has it: nobody else's, and never written into. The zero one is of no record: it has neither class nor fields.
type kept struct {
	record api.Record
	names  []api.Ref // whom it names, rising, each once
}

// keep is a record that can be, copied.
func keep(x *api.Record) (kept, api.Errno) {
	c, e := value.Copy(x) // of none ErrNil
	if e != api.OK {
		return kept{}, e
	}
	r, _ := c.(*api.Record)
	return kept{*r, namesOf(r)}, api.OK
}

// namesOf is whom a value names, rising, each once. It is one that can be, so that it does not hold itself.
func namesOf(v any) []api.Ref {
	var l []api.Ref
	var gather func(v any)
	gather = func(v any) {
		switch x := v.(type) {
		case api.Ref:
			if x != 0 {
				l = append(l, x)
			}
		case api.List:
			for _, part := range x {
				gather(part)
			}
		case api.Dict:
			for _, f := range x {
				gather(f.Value)
			}
		case *api.Record:
			gather(x.Fields)
		}
	}
	gather(v)
	slices.Sort(l)
	return slices.Compact(l)
}

// copied is the record for somebody else.
func (k kept) copied() *api.Record {
	c, _ := value.Copy(&k.record) // it was checked when it was taken
	r, _ := c.(*api.Record)
	return r
}

// get is a copy of what the record has under a name.
func (k kept) get(name string) (any, bool) {
	at, has := slices.BinarySearchFunc(k.record.Fields, name, func(f api.Field, name string) int { return strings.Compare(f.Name, name) })
	if !has {
		return nil, false
	}
	v, _ := value.Copy(k.record.Fields[at].Value)
	return v, true
}

// thing is a record of a heap as an object: as the record is when it is asked, and nothing once that is gone.
type thing struct {
	h  *Heap
	id api.Ref
}

func (x thing) ID() api.Ref { return x.id }

func (x thing) Get(name string) (any, bool) { return x.h.records[x.id].get(name) }

func (x thing) Class() string { return x.h.records[x.id].record.Class }

func (x thing) Version() int { return x.h.records[x.id].record.Version }
