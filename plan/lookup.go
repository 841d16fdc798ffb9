package plan

import (
	"math"
	"slices"

	"tenon/api"
	"tenon/index"
	"tenon/ops"
	"tenon/query"
)

// lookup shows who has, in an index, one of the keys that a comparison means, for as long as it is answered true.
type lookup func(x *index.Index, show func(id api.Ref) bool)

// lookupOf is how those are looked up who stand by a sign to what is fixed. Which keys are meant query itself is asked, so that by an index nothing else is told than by asking all.
func lookupOf(sign string, side api.Expr) lookup {
	held := api.Expr{Op: sign, Parts: []api.Expr{{Op: ops.Self}, side}}
	meant := func(key any) bool {
		is, _, _ := query.Match(held, key)
		return is
	}
	v := fixed(side)
	if sign == ops.Equal {
		return under(slices.DeleteFunc(alike(v), func(key any) bool { return !meant(key) }))
	}
	return within(spansOf(sign, v), meant)
}

// under looks up who has one of some keys.
func under(keys []any) lookup {
	return func(x *index.Index, show func(id api.Ref) bool) {
		for _, key := range keys {
			ids, _ := x.Find(key)
			for _, id := range ids {
				if !show(id) {
					return
				}
			}
		}
	}
}

// within looks up who has a key that is meant and lies in one of some spans.
func within(spans []span, meant func(key any) bool) lookup {
	return func(x *index.Index, show func(id api.Ref) bool) {
		on := true
		for _, s := range spans {
			if on {
				x.Range(s.from, s.to, false, false, func(f api.Found) bool {
					on = !meant(f.Key) || show(f.ID)
					return on
				})
			}
		}
	}
}

// alike is the keys that may be = to a value, each once: a number may stand there as a whole one or as a float, and 0 as -0, too.
func alike(v any) []any {
	switch x := v.(type) {
	case int64:
		return []any{x, float64(x), math.Copysign(0, -1)}
	case float64:
		return []any{x, whole(x)}
	}
	return []any{v}
}

// whole is a float without what stands behind its point, or the whole number that comes nearest to that.
func whole(f float64) int64 {
	switch {
	case f >= 1<<63:
		return math.MaxInt64
	case f <= -1<<63:
		return math.MinInt64
	}
	return int64(f)
}

// span is from which key on to which one, these two among them.
type span struct{ from, to any }

// spansOf is where the keys lie that stand by a sign to a value, and at their ends a few that may not. What is neither number nor of a kind that has an order of its own has none.
func spansOf(sign string, v any) []span {
	switch x := v.(type) {
	case int64:
		return spansOfNumber(sign, x, float64(x))
	case float64:
		return spansOfNumber(sign, whole(x), x)
	case string:
		return []span{cut(sign, "", x, []byte{})}
	case []byte:
		return []span{cut(sign, []byte{}, x, api.Ref(0))}
	case bool:
		return []span{cut(sign, false, x, true)}
	}
	return nil
}

// spansOfNumber is likewise of a number, which comes as the whole number and as the float that lie nearest.
func spansOfNumber(sign string, n int64, f float64) []span {
	if f == 0 {
		f = nought(sign)
	}
	return []span{
		cut(sign, int64(math.MinInt64), n, int64(math.MaxInt64)),
		cut(sign, math.Inf(-1), f, math.Inf(1)),
	}
}

// nought is the one of 0 and -0, which are one number, that has the other one on the side that a sign means.
func nought(sign string) float64 {
	if goesDown(sign) {
		return 0
	}
	return math.Copysign(0, -1)
}

// cut is the part of a span on the side of a key that a sign means, with that key.
func cut(sign string, from, key, to any) span {
	if goesDown(sign) {
		return span{from, key}
	}
	return span{key, to}
}

func goesDown(sign string) bool { return sign == ops.Less || sign == ops.UpTo }
