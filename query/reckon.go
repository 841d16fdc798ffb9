package query

import (
	"math"
	"slices"

	"tenon/api"
	"tenon/ops"
)

// together is of +, which lays texts, lists and bytes one behind the other.
func together(a, b any) (any, bool) {
	switch x := a.(type) {
	case string:
		y, is := b.(string)
		return x + y, is
	case []byte:
		y, are := b.([]byte)
		return slices.Concat(x, y), are
	case api.List:
		y, is := b.(api.List)
		return slices.Concat(x, y), is
	}
	return reckoned(ops.Plus, a, b)
}

// reckoned is of numbers: of two whole ones a whole one, if one of them is a float a float.
func reckoned(op string, a, b any) (any, bool) {
	x, is := a.(int64)
	y, too := b.(int64)
	if is && too {
		return wholes(op, x, y)
	}
	f, is := floatOf(a)
	g, too := floatOf(b)
	if !is || !too {
		return nil, false
	}
	return floats(op, f, g)
}

// wholes tells, too, whether the answer is one of 64 bits.
func wholes(op string, x, y int64) (int64, bool) {
	switch op {
	case ops.Plus:
		return x + y, (x+y < x) == (y < 0)
	case ops.Minus:
		return x - y, (x-y > x) == (y < 0)
	case ops.Times:
		return times(x, y)
	}
	if y == 0 {
		return 0, false
	}
	if op == ops.Rest {
		return x % y, true
	}
	return x / y, x != math.MinInt64 || y != -1
}

// times has the product divided again; of the least number by -1 that tells nothing, since both wrap round.
func times(x, y int64) (int64, bool) {
	if y == 0 {
		return 0, true
	}
	p := x * y
	return p, p/y == x && (x != math.MinInt64 || y != -1)
}

func floats(op string, x, y float64) (float64, bool) {
	switch op {
	case ops.Plus:
		return oneNaN(x + y), true
	case ops.Minus:
		return oneNaN(x - y), true
	case ops.Times:
		return oneNaN(x * y), true
	case ops.Divide:
		return oneNaN(x / y), true
	}
	return 0, false
}

func negative(v any) (any, bool) {
	switch x := v.(type) {
	case int64:
		return -x, x != math.MinInt64
	case float64:
		return oneNaN(-x), true
	}
	return nil, false
}

// floatOf is a number as a float.
func floatOf(v any) (float64, bool) {
	switch x := v.(type) {
	case int64:
		return float64(x), true
	case float64:
		return x, true
	}
	return 0, false
}

// oneNaN has what is no number always come out in the same bits, whatever the machine makes of it.
func oneNaN(f float64) float64 {
	if math.IsNaN(f) {
		return math.Float64frombits(0x7ff8000000000001)
	}
	return f
}
