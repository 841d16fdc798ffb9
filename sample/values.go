package sample

import (
	"math"
	"strings"

	"tenon/api"
)

// Rising is values that can be, each of which comes ahead of the next.
func Rising() []any {
	return []any{
		nil,
		false, true,
		int64(math.MinInt64), int64(-256), int64(-1), int64(0), int64(1), int64(255), int64(256), int64(math.MaxInt64),
		Bits(0xffffffffffffffff), Bits(0xfff8000000000001), Bits(0xfff8000000000000), Bits(0xfff0000000000001),
		math.Inf(-1), -math.MaxFloat64, -1.5, -1.0, -math.SmallestNonzeroFloat64, MinusZero(),
		0.0, math.SmallestNonzeroFloat64, 1.0, 1.5, math.MaxFloat64, math.Inf(1),
		Bits(0x7ff0000000000001), Bits(0x7ff8000000000000), Bits(0x7ff8000000000001), Bits(0x7fffffffffffffff),
		"", "\x00", "A", "a", "a\x00", "ab", "b", "z", "é", "\xff", "\xff\xff",
		[]byte{}, []byte{0}, []byte{0, 0}, []byte{1}, []byte{1, 0}, []byte{127}, []byte{128}, []byte{255},
		api.Ref(0), api.Ref(1), api.Ref(1 << 63), api.Ref(math.MaxUint64),
		api.List{}, api.List{nil}, api.List{nil, nil}, api.List{nil, true}, api.List{false}, api.List{int64(2)}, api.List{1.0}, api.List{"b"}, api.List{"b", "a"}, api.List{api.List{}}, api.List{api.List{}, nil}, api.List{api.List{nil}}, api.List{api.Dict{}}, api.List{Record("a", 1)},
		api.Dict{}, api.Dict{Field("a", nil)}, api.Dict{Field("a", nil), Field("b", nil)}, api.Dict{Field("a", nil), Field("c", nil)}, api.Dict{Field("a", false)}, api.Dict{Field("a", "z")}, api.Dict{Field("a0", nil)}, api.Dict{Field("a_", nil)}, api.Dict{Field("aa", nil)}, api.Dict{Field("b", nil)},
		Record("a", 1), Record("a", 1, Field("a", nil)), Record("a", 1, Field("a", nil), Field("b", nil)), Record("a", 1, Field("a", true)), Record("a", 1, Field("b", nil)), Record("a", 2), Record("a", 10), Record("a", api.MaxVersion), Record("a1", 1), Record("aa", 1, Field("a", nil)), Record("b", 1),
	}
}

// Rich is values that can be, with the limits themselves among them.
func Rich() []any {
	return append(Rising(),
		api.List(nil), api.Dict(nil), []byte(nil), Record("a", 1, api.Dict(nil)...),
		strings.Repeat("x", api.MaxText), make([]byte, api.MaxText), Items(api.MaxItems), Fields(api.MaxItems), Record(strings.Repeat("n", api.MaxName), api.MaxVersion, Fields(api.MaxItems)...),
		Within(api.MaxDepth, int64(5)), WithinFields(api.MaxDepth, int64(5)), Numbered(api.MaxNodes-1, "last"),
		api.List{[]byte{1, 2}, api.Dict{Field("a", Record("c", 3, Field("x", api.List{MinusZero(), Bits(0xfff8000000000123)})))}, api.Ref(9), nil, ""},
	)
}

// Wrong is a value that can't be, with the number of the first part that is wrong, and why.
type Wrong struct {
	Name string
	V    any
	At   int
	Why  api.Errno
}

// Wrongs is what can't be: each limit by one, each order of errors that the chapter gives.
func Wrongs() []Wrong {
	long := strings.Repeat("x", api.MaxText+1)
	deep := api.MaxDepth + 1
	many := Fields(api.MaxItems + 1)
	manyBad := append(Fields(api.MaxItems), Field("A", nil))
	alien, nobody := func() {}, Nobody()
	return []Wrong{
		{"nothing", nobody, 0, api.ErrNil}, {"nothing in a list", api.List{nil, nobody}, 2, api.ErrNil}, {"nothing in a record", Record("a", 1, Field("a", nobody)), 1, api.ErrNil},
		{"alien", alien, 0, api.ErrKind}, {"alien within", api.List{true, api.List{7}}, 3, api.ErrKind}, {"alien in a dict", api.Dict{Field("a", api.List{nil, nil}), Field("b", 7)}, 4, api.ErrKind},

		{"long text", long, 0, api.ErrLong}, {"long bytes", []byte(long), 0, api.ErrLong}, {"long text within", api.List{"", long}, 2, api.ErrLong},
		{"long list", Items(api.MaxItems + 1), 0, api.ErrLong}, {"long dict", many, 0, api.ErrLong}, {"long record", Record("a", 1, many...), 0, api.ErrLong},
		{"version 0", Record("a", 0), 0, api.ErrArg}, {"version below 0", Record("a", -1), 0, api.ErrArg}, {"version beyond", Record("a", api.MaxVersion+1), 0, api.ErrArg},

		{"deep nil", Within(deep, nil), 64, api.ErrLong}, {"deep list", Within(deep, api.List{}), 64, api.ErrLong}, {"deeper", Within(deep+20, nil), 64, api.ErrLong}, {"deep in fields", WithinFields(deep, nil), 64, api.ErrLong},
		{"deep nothing", Within(deep, nobody), 64, api.ErrNil}, {"deep alien", Within(deep, 7), 64, api.ErrKind},
		{"deep bad class", Within(deep, Record("A", 1)), 64, api.ErrLong}, {"deep bad version", Within(deep, Record("a", 0)), 64, api.ErrLong}, {"deep bad field", Within(deep, api.Dict{Field("A", nil)}), 64, api.ErrLong},
		{"behind the deepest", api.List{Within(api.MaxDepth-1, nil), 7}, 64, api.ErrKind},

		{"many nil", Numbered(api.MaxNodes, nil), 16384, api.ErrLong}, {"many nothing", Numbered(api.MaxNodes, nobody), 16384, api.ErrNil}, {"many alien", Numbered(api.MaxNodes, 7), 16384, api.ErrKind},
		{"many bad class", Numbered(api.MaxNodes, Record("A", 1)), 16384, api.ErrLong}, {"many and more", Numbered(api.MaxNodes+2, nil), 16384, api.ErrLong}, {"last bad class", Numbered(api.MaxNodes-1, Record("A", 1)), 16383, api.ErrName},
		{"doubled", Doubled(40), 16384, api.ErrLong},

		{"class ahead of version, fields, names", Record("A", 0, manyBad...), 0, api.ErrName}, {"version ahead of fields, names", Record("a", 0, manyBad...), 0, api.ErrArg},
		{"fields ahead of names", Record("a", 1, manyBad...), 0, api.ErrLong}, {"names", Record("a", 1, Field("A", nil)), 0, api.ErrName},
		{"fields ahead of names, dict", manyBad, 0, api.ErrLong}, {"version ahead of names", Record("a", 1001, Field("A", nil)), 0, api.ErrArg},
		{"the dict ahead of its values", api.Dict{Field("a", 7), Field("a", nil)}, 0, api.ErrName}, {"the record ahead of its values", Record("", 1, Field("a", nobody)), 0, api.ErrName},
		{"the list ahead of its values", append(api.List{7}, Items(api.MaxItems)...), 0, api.ErrLong},
		{"the first of two values", api.List{nobody, 7}, 1, api.ErrNil}, {"the first of two other values", api.List{7, nobody}, 1, api.ErrKind}, {"within ahead of behind", api.List{api.List{nil, long}, 7}, 3, api.ErrLong},
		{"behind what can be", api.List{api.Dict{Field("a", Record("a", 1, Field("a", nil)))}, Record("a", 0)}, 4, api.ErrArg},

		{"list ring", ListRing(), 64, api.ErrLong}, {"dict ring", DictRing(), 64, api.ErrLong}, {"record ring", RecordRing(), 64, api.ErrLong}, {"ring of three", RingOfThree(), 64, api.ErrLong}, {"ring with a part ahead", api.List{nil, ListRing()}, 65, api.ErrLong},
	}
}

// Anyhow is a value, not deeper than that, by a pick of numbers from 0 up to another one; alike ones come often, so that ties come, too.
func Anyhow(pick func(int) int, depth int) any {
	n := 11
	if depth <= 1 {
		n = 8
	}
	switch pick(n) {
	case 0:
		return nil
	case 1:
		return pick(2) == 0
	case 2:
		return int64(pick(3) - 1)
	case 3:
		return []float64{0, MinusZero(), 1, -1, math.NaN(), Bits(0xfff8000000000001), math.Inf(1), math.Inf(-1)}[pick(8)]
	case 4, 5:
		return []string{"", "a", "aa", "b", "\xff"}[pick(5)]
	case 6:
		return [][]byte{nil, {}, {0}, {0, 1}, {255}}[pick(5)]
	case 7:
		return api.Ref(pick(3))
	case 8:
		l := make(api.List, pick(4))
		for i := range l {
			l[i] = Anyhow(pick, depth-1)
		}
		return l
	case 9:
		return anyFields(pick, depth)
	}
	return Record([]string{"a", "b"}[pick(2)], 1+pick(2), anyFields(pick, depth)...)
}

func anyFields(pick func(int) int, depth int) api.Dict {
	d := api.Dict{}
	for _, name := range []string{"a", "b", "c"} {
		if pick(2) == 0 {
			d = append(d, Field(name, Anyhow(pick, depth-1)))
		}
	}
	return d
}

// Anything is a value, not deeper than that, by bits from a source of numbers; its own numbers, texts and bytes may be whatever they can be.
func Anything(bits func() uint64, depth int) any {
	pick := func(n int) int { return int(bits() % uint64(n)) }
	switch pick(8) {
	case 0:
		return int64(bits()) >> pick(64)
	case 1:
		return Bits(bits())
	case 2:
		return Bits(bits() | 0x7ff<<52)
	case 3:
		return string(anyBytes(pick))
	case 4:
		return anyBytes(pick)
	case 5:
		return api.Ref(bits() >> pick(64))
	case 6:
		if depth > 1 {
			return Record("c", 1+pick(api.MaxVersion), Field("a", Anything(bits, depth-1)), Field("b", Anything(bits, depth-1)))
		}
	case 7:
		if depth > 1 {
			return api.List{Anything(bits, depth-1), Anything(bits, depth-1)}
		}
	}
	return Anyhow(pick, depth)
}

func anyBytes(pick func(int) int) []byte {
	b := make([]byte, pick(20))
	for i := range b {
		b[i] = byte(pick(256))
	}
	return b
}
