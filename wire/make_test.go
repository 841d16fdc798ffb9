package wire_test

import (
	"encoding/binary"
	"encoding/hex"
	"fmt"
	"math"
	"math/rand"
	"strings"

	"tenon/api"
	"tenon/sample"
)

// What the tests of this package are made of.

// octets is bytes by their digits, in groups; a group with a * and a number behind it stands there so often.
func octets(s string) []byte {
	var out []byte
	for _, group := range strings.Fields(s) {
		digits, times, n := group, 1, 0
		if i := strings.IndexByte(group, '*'); i >= 0 {
			digits = group[:i]
			n, _ = fmt.Sscan(group[i+1:], &times)
		}
		b, err := hex.DecodeString(digits)
		if err != nil || n == 0 && digits != group {
			panic("no bytes: " + s)
		}
		for range times {
			out = append(out, b...)
		}
	}
	return out
}

// joined is bytes one behind the other.
func joined(parts ...[]byte) []byte {
	out := []byte{}
	for _, b := range parts {
		out = append(out, b...)
	}
	return out
}

// number is a number's bytes, as the library has them.
func number(n uint64) []byte { return binary.AppendUvarint(nil, n) }

// words is a text's bytes behind their number.
func words(s string) []byte { return joined(number(uint64(len(s))), []byte(s)) }

// coder writes whatever it is handed, also what can't be, and notes where each part begins: so Encode and Decode are held against something that knows nothing of them.
type coder struct {
	out    []byte
	starts []int
}

func (c *coder) add(parts ...[]byte) { c.out = append(c.out, joined(parts...)...) }

func (c *coder) value(v any, depth int) {
	c.starts = append(c.starts, len(c.out))
	if depth > api.MaxDepth+2 || len(c.starts) > api.MaxNodes+4 {
		v = nil // what holds itself, or nearly, must end
	}
	switch x := v.(type) {
	case nil:
		c.add([]byte{1})
	case bool:
		c.add([]byte{2}, map[bool][]byte{false: {0}, true: {1}}[x])
	case int64:
		c.add([]byte{3}, binary.AppendVarint(nil, x))
	case float64:
		c.add([]byte{4}, binary.BigEndian.AppendUint64(nil, math.Float64bits(x)))
	case string:
		c.add([]byte{5}, words(x))
	case []byte:
		c.add([]byte{6}, words(string(x)))
	case api.Ref:
		c.add([]byte{7}, number(uint64(x)))
	case api.List:
		c.add([]byte{8}, number(uint64(len(x))))
		for i := 0; i < len(x) && len(c.starts) <= api.MaxNodes+4; i++ {
			c.value(x[i], depth+1)
		}
	case api.Dict:
		c.add([]byte{9})
		c.fields(x, depth)
	case *api.Record:
		if x == nil {
			c.add([]byte{11})
			return
		}
		c.add([]byte{10}, words(x.Class), number(uint64(x.Version)))
		c.fields(x.Fields, depth)
	default:
		c.add([]byte{0})
	}
}

func (c *coder) fields(d api.Dict, depth int) {
	c.add(number(uint64(len(d))))
	for _, f := range d {
		c.add(words(f.Name))
		c.value(f.Value, depth+1)
	}
}

// coded is a value's bytes, whether it can be or not.
func coded(v any) []byte {
	var c coder
	c.value(v, 1)
	return c.out
}

// said is a value and its bytes.
type said struct {
	v any
	b []byte
}

// plain are values of each kind with their bytes, written down one by one.
func plain() []said {
	field := sample.Field
	all := []said{
		{nil, octets("01")}, {false, octets("02 00")}, {true, octets("02 01")},
		{"", octets("05 00")}, {"ab", octets("05 02 61 62")}, {"\x00\xff", octets("05 02 00 ff")}, {"é", octets("05 02 c3 a9")}, {strings.Repeat("a", 127), octets("05 7f 61*127")}, {strings.Repeat("a", 128), octets("05 8001 61*128")}, {strings.Repeat("a", 65535), octets("05 ffff03 61*65535")}, {strings.Repeat("a", 65536), octets("05 808004 61*65536")},
		{[]byte{}, octets("06 00")}, {[]byte(nil), octets("06 00")}, {[]byte{0}, octets("06 01 00")}, {[]byte("ab"), octets("06 02 61 62")}, {make([]byte, 65536), octets("06 808004 00*65536")},
		{api.List{}, octets("08 00")}, {api.List(nil), octets("08 00")}, {api.List{nil}, octets("08 01 01")}, {api.List{nil, true, api.List{}}, octets("08 03 01 0201 0800")}, {api.List{api.List{api.List{nil}, nil}}, octets("08 01 08 02 08 01 01 01")}, {sample.Items(127), octets("08 7f 01*127")}, {sample.Items(128), octets("08 8001 01*128")}, {sample.Items(4096), octets("08 8020 01*4096")},
		{api.Dict{}, octets("09 00")}, {api.Dict(nil), octets("09 00")}, {api.Dict{field("a", nil)}, octets("09 01 01 61 01")}, {api.Dict{field("a", true), field("a_9", ""), field("b", api.Dict{})}, octets("09 03 0161 0201 03615f39 0500 0162 0900")},
		{sample.Record("p", 1), octets("0a 01 70 01 00")}, {sample.Record("p", 127), octets("0a 01 70 7f 00")}, {sample.Record("p", 128), octets("0a 01 70 8001 00")}, {sample.Record("p", 1000), octets("0a 01 70 e807 00")}, {sample.Record("pq_7", 2, field("a", nil), field("b", sample.Record("q", 3))), octets("0a 04 70715f37 02 02 0161 01 0162 0a 01 71 03 00")},
		{sample.Record(strings.Repeat("n", 32), 1000, field(strings.Repeat("m", 32), nil)), octets("0a 20 6e*32 e807 01 20 6d*32 01")},
		{sample.Within(64, api.List{}), octets("0801*63 0800")}, {sample.Within(64, nil), octets("0801*63 01")},
	}
	return append(all, plainNumbers()...)
}

func plainNumbers() []said {
	return []said{
		{int64(0), octets("03 00")}, {int64(-1), octets("03 01")}, {int64(1), octets("03 02")}, {int64(-2), octets("03 03")}, {int64(63), octets("03 7e")}, {int64(-64), octets("03 7f")}, {int64(64), octets("03 8001")}, {int64(-65), octets("03 8101")}, {int64(8191), octets("03 fe7f")}, {int64(-8192), octets("03 ff7f")}, {int64(8192), octets("03 808001")}, {int64(1) << 62, octets("03 80*9 01")}, {int64(-1) << 62, octets("03 ff*8 7f")},
		{int64(math.MaxInt64), octets("03 fe ff*8 01")}, {int64(math.MaxInt64 - 1), octets("03 fc ff*8 01")}, {int64(math.MinInt64), octets("03 ff*9 01")}, {int64(math.MinInt64 + 1), octets("03 fd ff*8 01")},
		{api.Ref(0), octets("07 00")}, {api.Ref(1), octets("07 01")}, {api.Ref(127), octets("07 7f")}, {api.Ref(128), octets("07 8001")}, {api.Ref(16383), octets("07 ff7f")}, {api.Ref(16384), octets("07 808001")}, {api.Ref(300), octets("07 ac02")}, {api.Ref(1<<63 - 1), octets("07 ff*8 7f")}, {api.Ref(1 << 63), octets("07 80*9 01")}, {api.Ref(math.MaxUint64), octets("07 ff*9 01")},
		{0.0, octets("04 00*8")}, {sample.MinusZero(), octets("04 80 00*7")}, {1.0, octets("04 3ff0 00*6")}, {-1.5, octets("04 bff8 00*6")}, {0.1, octets("04 3fb999999999999a")}, {math.Inf(1), octets("04 7ff0 00*6")}, {math.Inf(-1), octets("04 fff0 00*6")}, {math.MaxFloat64, octets("04 7fef ff*6")}, {math.SmallestNonzeroFloat64, octets("04 00*7 01")},
		{math.NaN(), octets("04 7ff8000000000001")}, {sample.Bits(0x7ff8000000000000), octets("04 7ff8000000000000")}, {sample.Bits(0x7ff0000000000001), octets("04 7ff0000000000001")}, {sample.Bits(0xfff0000000000001), octets("04 fff0000000000001")}, {sample.Bits(0xfff8000000000123), octets("04 fff8000000000123")}, {sample.Bits(0xffffffffffffffff), octets("04 ff*8")}, {sample.Bits(0x7ffabcdef0123456), octets("04 7ffabcdef0123456")},
	}
}

// values are all values that the tests of this package go through.
func values() []any {
	all := sample.Rich()
	for _, x := range plain() {
		all = append(all, x.v)
	}
	r := rand.New(rand.NewSource(3))
	for range 3000 {
		all = append(all, sample.Anything(r.Uint64, 4))
	}
	for i := range 64 {
		for _, n := range []uint64{1 << i, 1<<i - 1, 1<<i + 1} {
			all = append(all, api.Ref(n), int64(n), -int64(n), sample.Bits(n))
		}
	}
	return all
}

// short is bytes, as far as they can be read in a test's words.
func short(b []byte) string {
	if len(b) > 40 {
		return fmt.Sprintf("%x .. %x (%d)", b[:20], b[len(b)-20:], len(b))
	}
	return fmt.Sprintf("%x", b)
}
