package plan

import (
	"cmp"
	"slices"

	"tenon/api"
	"tenon/index"
	"tenon/names"
	"tenon/query"
)

// guide is an index of a table, with the way that it is of.
type guide struct {
	*index.Index
	way []api.Step
}

// choice is how a query goes, and who is asked then.
type choice struct {
	api.Plan
	asked []api.Ref
}

// canBe is why a query can't be asked.
func canBe(class string, e api.Expr) api.Errno {
	if class != "" && !names.Is(class) {
		return api.ErrName
	}
	_, why := query.Print(e)
	return why
}

// choose tells how a query goes. The indexes, and the comparisons of each, are tried in the order in which they would be taken, so that only one that asks fewer takes the place of what was found.
func (t *Table) choose(class string, e api.Expr) (choice, api.Errno) {
	if why := canBe(class, e); why != api.OK {
		return choice{}, why
	}
	var needed []comparison
	need(e, func(c comparison) { needed = append(needed, c) })
	slices.SortStableFunc(needed, func(a, b comparison) int { return cmp.Compare(a.at, b.at) })
	best := choice{Plan: api.Plan{Index: -1, Asks: t.Len()}}
	for number, g := range t.guides {
		for _, c := range needed {
			if !g.leads(class, c) {
				continue
			}
			if asked := g.fewer(c, best.Asks); len(asked) < best.Asks {
				best = choice{api.Plan{Index: number, At: c.at, Asks: len(asked)}, asked}
			}
		}
	}
	if best.Index < 0 {
		best.asked = t.all()
	}
	return best, api.OK
}

// leads tells whether a comparison goes by the index, when those of a class are asked for.
func (g guide) leads(class string, c comparison) bool {
	def := g.Def()
	return (def.Class == "" || def.Class == class) && !(def.Some && c.ofNil) && slices.Equal(g.way, c.way)
}

// fewer is who has one of the keys that a comparison means, as far as these are fewer than so many: no more of them are looked for then.
func (g guide) fewer(c comparison, than int) []api.Ref {
	var ids []api.Ref
	c.show(g.Index, func(id api.Ref) bool {
		ids = append(ids, id)
		return len(ids) < than
	})
	return ids
}
