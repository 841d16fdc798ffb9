package value

import (
	"bytes"
	"math"

	"tenon/api"
)

// ordered is what the program compares by < : no floats, whose NaNs have no place there, and no interfaces.
type ordered interface {
	~int | ~int64 | ~uint64 | ~string
}

func compare[T ordered](a, b T) int {
	switch {
	case a < b:
		return -1
	case a > b:
		return 1
	}
	return 0
}

// order is of values that can be. Once the kinds are one, b holds what a holds, so that no assertion can fail.
func order(a, b any) int {
	if n := compare(kindOf(a), kindOf(b)); n != 0 {
		return n
	}
	switch x := a.(type) {
	case bool:
		return compare(boolRank(x), boolRank(b.(bool)))
	case int64:
		return compare(x, b.(int64))
	case float64:
		return compare(floatRank(x), floatRank(b.(float64)))
	case string:
		return compare(x, b.(string))
	case []byte:
		return bytes.Compare(x, b.([]byte))
	case api.Ref:
		return compare(x, b.(api.Ref))
	case api.List:
		return orderLists(x, b.(api.List))
	case api.Dict:
		return orderDicts(x, b.(api.Dict))
	case *api.Record:
		return orderRecords(x, b.(*api.Record))
	}
	return 0
}

func boolRank(b bool) int {
	if b {
		return 1
	}
	return 0
}

// floatRank turns a float's bits so that they rise as the floats do: with the sign's bit the greater bits come first, and all of those ahead of the floats without it.
func floatRank(f float64) uint64 {
	const sign = 1 << 63
	bits := math.Float64bits(f)
	if bits&sign != 0 {
		return ^bits
	}
	return bits | sign
}

func orderLists(a, b api.List) int {
	for i := range min(len(a), len(b)) {
		if n := order(a[i], b[i]); n != 0 {
			return n
		}
	}
	return compare(len(a), len(b))
}

func orderDicts(a, b api.Dict) int {
	for i := range min(len(a), len(b)) {
		if n := compare(a[i].Name, b[i].Name); n != 0 {
			return n
		}
		if n := order(a[i].Value, b[i].Value); n != 0 {
			return n
		}
	}
	return compare(len(a), len(b))
}

func orderRecords(a, b *api.Record) int {
	if n := compare(a.Class, b.Class); n != 0 {
		return n
	}
	if n := compare(a.Version, b.Version); n != 0 {
		return n
	}
	return orderDicts(a.Fields, b.Fields)
}
