package wire

import (
	"math"

	"tenon/api"
)

// What stands here is of values that can be: they were checked before, so that they end and have one of these kinds.

func appendValue(out []byte, v any) []byte {
	switch x := v.(type) {
	case nil:
		out = append(out, api.KNil)
	case bool:
		out = append(out, api.KBool, bit(x))
	case int64:
		out = appendNumber(append(out, api.KInt), folded(x))
	case float64:
		out = appendBits(append(out, api.KFloat), math.Float64bits(x))
	case string:
		out = appendText(append(out, api.KText), x)
	case []byte:
		out = appendText(append(out, api.KBytes), x)
	case api.Ref:
		out = appendNumber(append(out, api.KRef), uint64(x))
	case api.List:
		out = appendNumber(append(out, api.KList), uint64(len(x)))
		for _, part := range x {
			out = appendValue(out, part)
		}
	case api.Dict:
		out = appendFields(append(out, api.KDict), x)
	case *api.Record:
		out = appendText(append(out, api.KRecord), x.Class)
		out = appendNumber(out, uint64(x.Version))
		out = appendFields(out, x.Fields)
	}
	return out
}

func appendFields(out []byte, d api.Dict) []byte {
	out = appendNumber(out, uint64(len(d)))
	for _, f := range d {
		out = appendText(out, f.Name)
		out = appendValue(out, f.Value)
	}
	return out
}

func appendText[T string | []byte](out []byte, s T) []byte {
	return append(appendNumber(out, uint64(len(s))), s...)
}

func appendNumber(out []byte, n uint64) []byte {
	for n >= more {
		out = append(out, byte(n)|more)
		n >>= 7
	}
	return append(out, byte(n))
}

func appendBits(out []byte, bits uint64) []byte {
	for shift := 56; shift >= 0; shift -= 8 {
		out = append(out, byte(bits>>shift))
	}
	return out
}

func bit(b bool) byte {
	if b {
		return 1
	}
	return 0
}

// folded lays the numbers below 0 between the others, so that those near 0 have few bytes: 2n, or -2n - 1, which is 2n with all its bits turned.
func folded(n int64) uint64 {
	if n < 0 {
		return ^(uint64(n) << 1)
	}
	return uint64(n) << 1
}

// unfolded is the number of which folded made that one.
func unfolded(n uint64) int64 {
	if n&1 == 1 {
		return int64(^(n >> 1))
	}
	return int64(n >> 1)
}
