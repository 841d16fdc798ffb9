package plan

import (
	"slices"
	"strings"

	"tenon/api"
	"tenon/value"
)

// row is a record of a table as an object that is versioned. The record is the table's own, and never written into.
type row struct {
	id     api.Ref
	record *api.Record
}

func (x row) ID() api.Ref { return x.id }

// Get hands out what the row has itself: indexes take copies.
func (x row) Get(name string) (any, bool) {
	fields := x.record.Fields
	at, has := slices.BinarySearchFunc(fields, name, func(f api.Field, name string) int { return strings.Compare(f.Name, name) })
	if !has {
		return nil, false
	}
	return fields[at].Value, true
}

func (x row) Class() string { return x.record.Class }

func (x row) Version() int { return x.record.Version }

// copied is a record that can be, for somebody else.
func copied(r *api.Record) *api.Record {
	c, _ := value.Copy(r)
	own, _ := c.(*api.Record)
	return own
}
