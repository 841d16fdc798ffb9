package query

import (
	"bytes"
	"cmp"
	"math"
	"slices"

	"tenon/api"
	"tenon/ops"
	"tenon/value"
)

// apart is how a value stands to another one, if one of them is no number: by no sign.
const apart = 2

// held tells whether a sign holds between two values, if these can be held against one another.
func held(sign string, a, b any) (bool, bool) {
	n, can := standing(a, b)
	switch sign {
	case ops.Less:
		return n == -1, can
	case ops.UpTo:
		return n == -1 || n == 0, can
	case ops.More:
		return n == 1, can
	}
	return n == 1 || n == 0, can
}

// standing tells how a value stands to another one, if these can be held against one another.
func standing(a, b any) (int, bool) {
	switch x := a.(type) {
	case int64:
		return standingOfWhole(x, b)
	case float64:
		return standingOfFloat(x, b)
	case string, []byte, bool:
		n, _ := value.Order(a, b)
		return n, value.Kind(a) == value.Kind(b)
	}
	return 0, false
}

func standingOfWhole(x int64, b any) (int, bool) {
	switch y := b.(type) {
	case int64:
		return cmp.Compare(x, y), true
	case float64:
		return mixed(x, y), true
	}
	return 0, false
}

func standingOfFloat(x float64, b any) (int, bool) {
	switch y := b.(type) {
	case int64:
		return -mixed(y, x), true
	case float64:
		if math.IsNaN(x) || math.IsNaN(y) {
			return apart, true
		}
		return cmp.Compare(x, y), true
	}
	return 0, false
}

// mixed is of a whole number and a float, by what they are: made a float, a great whole number would be another one.
func mixed(x int64, y float64) int {
	switch {
	case math.IsNaN(y):
		return apart
	case y >= 1<<63:
		return -1
	case y < -1<<63:
		return 1
	}
	whole := math.Trunc(y)
	if n := cmp.Compare(x, int64(whole)); n != 0 {
		return n
	}
	return cmp.Compare(whole, y)
}

// equal tells whether two values are the same, or the same number.
func equal(a, b any) bool {
	switch x := a.(type) {
	case int64:
		if y, is := b.(float64); is {
			return mixed(x, y) == 0
		}
	case float64:
		if y, is := b.(int64); is {
			return mixed(y, x) == 0
		}
	}
	return same(a, b)
}

// same is value.Same of values that can be: that would look both through each time, however soon they differ.
func same(a, b any) bool {
	switch x := a.(type) {
	case float64:
		y, is := b.(float64)
		return is && math.Float64bits(x) == math.Float64bits(y)
	case []byte:
		y, are := b.([]byte)
		return are && bytes.Equal(x, y)
	case api.List:
		y, is := b.(api.List)
		return is && slices.EqualFunc(x, y, same)
	case api.Dict:
		y, is := b.(api.Dict)
		return is && sameFields(x, y)
	case *api.Record:
		y, is := b.(*api.Record)
		return is && x.Class == y.Class && x.Version == y.Version && sameFields(x.Fields, y.Fields)
	}
	return a == b
}

func sameFields(a, b api.Dict) bool {
	return slices.EqualFunc(a, b, func(a, b api.Field) bool { return a.Name == b.Name && same(a.Value, b.Value) })
}
