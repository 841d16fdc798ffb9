package value_test

import (
	"math"
	"math/rand"
	"strconv"
	"strings"

	"tenon/api"
)

// What the tests of this package are made of.

type word string    // of a text's make, but another type
type octets []byte  // of bytes' make
type values []any   // of a list's make
type number int64   // of an int64's make
type twice struct { // has a record's fields by embedding
	*api.Record
}

var nobody *api.Record

func record(class string, version int, fields ...api.Field) *api.Record {
	return &api.Record{Class: class, Version: version, Fields: fields}
}

func field(name string, v any) api.Field { return api.Field{Name: name, Value: v} }

func entry(name string, t api.Term) api.Entry { return api.Entry{Name: name, Value: t} }

// bits is the float of those bits.
func bits(b uint64) float64 { return math.Float64frombits(b) }

func minusZero() float64 { return math.Copysign(0, -1) }

// items is a list of n nils.
func items(n int) api.List { return make(api.List, n) }

// fields is n fields whose names rise.
func fields(n int) api.Dict {
	d := make(api.Dict, n)
	for i := range d {
		d[i].Name = "f" + strconv.Itoa(10000+i)
	}
	return d
}

// within lays a value so deep into lists that it lies at that depth.
func within(depth int, v any) any {
	for range depth - 1 {
		v = api.List{v}
	}
	return v
}

// withinFields does likewise with dicts and records by turns.
func withinFields(depth int, v any) any {
	for i := range depth - 1 {
		if i%2 == 0 {
			v = api.Dict{field("a", v)}
		} else {
			v = record("a", 1, field("a", v))
		}
	}
	return v
}

// numbered is a list in which the last value has that number, and is v.
func numbered(number int, v any) api.List {
	whole := api.List{}
	left := number - 1 // parts between the list itself and v
	for left > 0 {
		n := min(left-1, api.MaxItems)
		whole = append(whole, items(n))
		left -= 1 + n
	}
	return append(whole, v)
}

// doubled is a list of two lists of two lists and so on, all of them in little memory.
func doubled(levels int) any {
	var v any = api.List{}
	for range levels {
		v = api.List{v, v}
	}
	return v
}

func listRing() any {
	l := make(api.List, 1)
	l[0] = l
	return l
}

func dictRing() any {
	d := make(api.Dict, 1)
	d[0] = field("d", d)
	return d
}

func recordRing() any {
	r := record("r", 1)
	r.Fields = api.Dict{field("r", r)}
	return r
}

// ringOfThree goes through a list, a dict and a record.
func ringOfThree() any {
	r := record("r", 1)
	l := api.List{api.Dict{field("d", r)}}
	r.Fields = api.Dict{field("l", l)}
	return l
}

func termRing() api.Term {
	l := make([]api.Term, 1)
	l[0] = api.Term{Kind: api.KList, List: l}
	return l[0]
}

func entryRing() api.Term {
	l := make([]api.Entry, 1)
	l[0] = entry("a", api.Term{Kind: api.KRecord, Class: "r", Version: 1, Fields: l})
	return l[0].Value
}

// aliens are values of no kind, some of which Go can't compare.
func aliens() []any {
	text, list, ref := "a", api.List{}, api.Ref(1)
	r := record("a", 1)
	return []any{
		7, int8(7), int16(7), int32(7), uint(7), uint8(7), uint16(7), uint32(7), uint64(7), uintptr(7), float32(7), complex64(7), complex128(7), 'a',
		word("a"), octets{1}, values{nil}, number(7),
		[]any{}, []any(nil), []string{"a"}, [1]byte{1}, [1]any{func() {}}, []api.Field{}, []api.Term{}, []int64(nil),
		api.Record{Class: "a", Version: 1}, api.Field{}, api.Term{Kind: api.KNil}, api.Entry{}, api.OK, api.Stored{}, twice{r}, twice{},
		&text, &list, &ref, &r, (*string)(nil), (*api.List)(nil), (*api.Dict)(nil), (**api.Record)(nil), (*any)(nil), (*api.Term)(nil), (*int64)(nil),
		map[string]int{}, map[string]any(nil), func() {}, (func())(nil), make(chan int), (chan int)(nil), struct{}{}, struct{ f func() }{}, error(api.ErrArg),
	}
}

// rising is values that can be, each of which comes ahead of the next.
func rising() []any {
	return []any{
		nil,
		false, true,
		int64(math.MinInt64), int64(-256), int64(-1), int64(0), int64(1), int64(255), int64(256), int64(math.MaxInt64),
		bits(0xffffffffffffffff), bits(0xfff8000000000001), bits(0xfff8000000000000), bits(0xfff0000000000001),
		math.Inf(-1), -math.MaxFloat64, -1.5, -1.0, -math.SmallestNonzeroFloat64, minusZero(),
		0.0, math.SmallestNonzeroFloat64, 1.0, 1.5, math.MaxFloat64, math.Inf(1),
		bits(0x7ff0000000000001), bits(0x7ff8000000000000), bits(0x7ff8000000000001), bits(0x7fffffffffffffff),
		"", "\x00", "A", "a", "a\x00", "ab", "b", "z", "é", "\xff", "\xff\xff",
		[]byte{}, []byte{0}, []byte{0, 0}, []byte{1}, []byte{1, 0}, []byte{127}, []byte{128}, []byte{255},
		api.Ref(0), api.Ref(1), api.Ref(1 << 63), api.Ref(math.MaxUint64),
		api.List{}, api.List{nil}, api.List{nil, nil}, api.List{nil, true}, api.List{false}, api.List{int64(2)}, api.List{1.0}, api.List{"b"}, api.List{"b", "a"}, api.List{api.List{}}, api.List{api.List{}, nil}, api.List{api.List{nil}}, api.List{api.Dict{}}, api.List{record("a", 1)},
		api.Dict{}, api.Dict{field("a", nil)}, api.Dict{field("a", nil), field("b", nil)}, api.Dict{field("a", nil), field("c", nil)}, api.Dict{field("a", false)}, api.Dict{field("a", "z")}, api.Dict{field("a0", nil)}, api.Dict{field("a_", nil)}, api.Dict{field("aa", nil)}, api.Dict{field("b", nil)},
		record("a", 1), record("a", 1, field("a", nil)), record("a", 1, field("a", nil), field("b", nil)), record("a", 1, field("a", true)), record("a", 1, field("b", nil)), record("a", 2), record("a", 10), record("a", api.MaxVersion), record("a1", 1), record("aa", 1, field("a", nil)), record("b", 1),
	}
}

// rich is values that can be, with the limits themselves among them.
func rich() []any {
	return append(rising(),
		api.List(nil), api.Dict(nil), []byte(nil), record("a", 1, api.Dict(nil)...),
		strings.Repeat("x", api.MaxText), make([]byte, api.MaxText), items(api.MaxItems), fields(api.MaxItems), record(strings.Repeat("n", api.MaxName), api.MaxVersion, fields(api.MaxItems)...),
		within(api.MaxDepth, int64(5)), withinFields(api.MaxDepth, int64(5)), numbered(api.MaxNodes-1, "last"),
		api.List{[]byte{1, 2}, api.Dict{field("a", record("c", 3, field("x", api.List{minusZero(), bits(0xfff8000000000123)})))}, api.Ref(9), nil, ""},
	)
}

// wrongValue is a value that can't be, with the first part that is wrong and why.
type wrongValue struct {
	name string
	v    any
	at   int
	why  api.Errno
}

// anyhow is a value of that generator, not deeper than that; alike ones come often, so that ties come, too.
func anyhow(r *rand.Rand, depth int) any {
	n := 11
	if depth <= 1 {
		n = 8
	}
	switch r.Intn(n) {
	case 0:
		return nil
	case 1:
		return r.Intn(2) == 0
	case 2:
		return int64(r.Intn(3) - 1)
	case 3:
		return []float64{0, minusZero(), 1, -1, math.NaN(), bits(0xfff8000000000001), math.Inf(1), math.Inf(-1)}[r.Intn(8)]
	case 4, 5:
		return []string{"", "a", "aa", "b", "\xff"}[r.Intn(5)]
	case 6:
		return [][]byte{nil, {}, {0}, {0, 1}, {255}}[r.Intn(5)]
	case 7:
		return api.Ref(r.Intn(3))
	case 8:
		l := make(api.List, r.Intn(4))
		for i := range l {
			l[i] = anyhow(r, depth-1)
		}
		return l
	case 9:
		return anyFields(r, depth)
	}
	return record([]string{"a", "b"}[r.Intn(2)], 1+r.Intn(2), anyFields(r, depth)...)
}

func anyFields(r *rand.Rand, depth int) api.Dict {
	d := api.Dict{}
	for _, name := range []string{"a", "b", "c"} {
		if r.Intn(2) == 0 {
			d = append(d, field(name, anyhow(r, depth-1)))
		}
	}
	return d
}
