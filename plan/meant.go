package plan

import (
	"maps"
	"slices"

	"tenon/api"
	"tenon/path"
	"tenon/query"
	"tenon/value"
)

// all is the identities of all records.
func (t *Table) all() []api.Ref { return slices.Collect(maps.Keys(t.rows)) }

// meant is which of some identities a query means, rising.
func (t *Table) meant(asked []api.Ref, class string, e api.Expr) []api.Ref {
	var l []api.Ref
	for _, id := range asked {
		r := t.rows[id].record
		if class != "" && class != r.Class {
			continue
		}
		if is, _, _ := query.Match(e, r); is {
			l = append(l, id)
		}
	}
	slices.Sort(l)
	return l
}

// ordered is identities, which rise, by what lies at a way in their records.
func (t *Table) ordered(ids []api.Ref, way []api.Step, down bool) []api.Ref {
	l := make([]api.Found, len(ids))
	for i, id := range ids {
		v, _ := path.Get(t.rows[id].record, way)
		l[i] = api.Found{Key: v, ID: id}
	}
	slices.SortStableFunc(l, func(a, b api.Found) int {
		n, _ := value.Order(a.Key, b.Key)
		if down {
			return -n
		}
		return n
	})
	for i, f := range l {
		ids[i] = f.ID
	}
	return ids
}
