package plan

import (
	"tenon/api"
	"tenon/names"
	"tenon/ops"
	"tenon/query"
)

// comparison is one of a way with what is fixed: where it stands, whether it is = with nil, and how those are looked up whom it means.
type comparison struct {
	at    int
	way   []api.Step
	ofNil bool
	show  lookup
}

// need shows the comparisons of a way with what is fixed that must be true if an expression is to be.
func need(e api.Expr, show func(c comparison)) {
	if e.Op == ops.And {
		need(e.Parts[0], show)
		need(e.Parts[1], show)
	} else if turned := otherWayAbout(e.Op); turned != "" {
		compare(e.At, e.Parts[0], e.Op, e.Parts[1], show)
		compare(e.At, e.Parts[1], turned, e.Parts[0], show)
	}
}

// otherWayAbout is the sign by which a comparison goes with its sides exchanged; none of one that goes by no index.
func otherWayAbout(sign string) string {
	switch sign {
	case ops.Equal:
		return ops.Equal
	case ops.Less:
		return ops.More
	case ops.UpTo:
		return ops.From
	case ops.More:
		return ops.Less
	case ops.From:
		return ops.UpTo
	}
	return ""
}

// compare shows a comparison, if its left side is a way and its right one is fixed.
func compare(at int, left api.Expr, sign string, right api.Expr, show func(c comparison)) {
	way, is := wayOf(left)
	if !is || !isFixed(right) {
		return
	}
	ofNil := sign == ops.Equal && right.Op == ops.Value && right.Value.Kind == api.KNil
	show(comparison{at, way, ofNil, lookupOf(sign, right)})
}

// wayOf is the way that a side is, if it is one.
func wayOf(side api.Expr) ([]api.Step, bool) {
	var last api.Step
	switch side.Op {
	case ops.Field:
		return []api.Step{{Name: side.Name}}, true
	case ops.Dot:
		last.Name = side.Name
	case ops.At:
		step, is := stepOf(side.Parts[1])
		if !is {
			return nil, false
		}
		last = step
	default:
		return nil, false
	}
	way, is := wayOf(side.Parts[0])
	return append(way, last), is
}

// stepOf is the step by which at goes, if what stands in its brackets is a value that tells one.
func stepOf(e api.Expr) (api.Step, bool) {
	v := e.Value
	switch {
	case e.Op == ops.Value && v.Kind == api.KInt && v.Int < api.MaxItems:
		return api.Step{At: true, Index: int(v.Int)}, true
	case e.Op == ops.Value && v.Kind == api.KText && names.Is(v.Text):
		return api.Step{Name: v.Text}, true
	}
	return api.Step{}, false
}

// isFixed tells whether a side answers the same whatever is asked.
func isFixed(side api.Expr) bool {
	switch side.Op {
	case ops.Value:
		return true
	case ops.Neg:
		part := side.Parts[0]
		return part.Op == ops.Value && (part.Value.Kind == api.KInt || part.Value.Kind == api.KFloat)
	case ops.List:
		for _, part := range side.Parts {
			if !isFixed(part) {
				return false
			}
		}
		return true
	}
	return false
}

// fixed is what a side that is fixed answers; nil, if that can't be.
func fixed(side api.Expr) any {
	v, _, _ := query.Eval(side, nil)
	return v
}
