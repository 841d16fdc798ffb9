// Package sample holds values for the tests of all layers: ordinary ones, each limit itself and one beyond it, and what can't be.
package sample

import (
	"math"
	"strconv"
	"strings"

	"tenon/api"
)

// Record is a record of those fields.
func Record(class string, version int, fields ...api.Field) *api.Record {
	return &api.Record{Class: class, Version: version, Fields: fields}
}

// Field is a field.
func Field(name string, v any) api.Field { return api.Field{Name: name, Value: v} }

// Nobody is a record that is nil.
func Nobody() *api.Record { return nil }

// Bits is the float of those bits.
func Bits(b uint64) float64 { return math.Float64frombits(b) }

// MinusZero is the nought that has a sign.
func MinusZero() float64 { return math.Copysign(0, -1) }

// Items is a list of n nils.
func Items(n int) api.List { return make(api.List, n) }

// Fields is n fields whose names rise.
func Fields(n int) api.Dict {
	d := make(api.Dict, n)
	for i := range d {
		d[i].Name = "f" + strconv.Itoa(10000+i)
	}
	return d
}

// Within lays a value so deep into lists that it lies at that depth.
func Within(depth int, v any) any {
	for range depth - 1 {
		v = api.List{v}
	}
	return v
}

// WithinFields does likewise with dicts and records by turns.
func WithinFields(depth int, v any) any {
	for i := range depth - 1 {
		if i%2 == 0 {
			v = api.Dict{Field("a", v)}
		} else {
			v = Record("a", 1, Field("a", v))
		}
	}
	return v
}

// Numbered is a list in which the last value has that number, and is v.
func Numbered(number int, v any) api.List {
	whole := api.List{}
	left := number - 1 // parts between the list itself and v
	for left > 0 {
		n := min(left-1, api.MaxItems)
		whole = append(whole, Items(n))
		left -= 1 + n
	}
	return append(whole, v)
}

// Doubled is a list of two lists of two lists and so on, all of them in little memory.
func Doubled(levels int) any {
	var v any = api.List{}
	for range levels {
		v = api.List{v, v}
	}
	return v
}

// ListRing is a list that holds itself.
func ListRing() any {
	l := make(api.List, 1)
	l[0] = l
	return l
}

// DictRing is a dict that holds itself.
func DictRing() any {
	d := make(api.Dict, 1)
	d[0] = Field("d", d)
	return d
}

// RecordRing is a record that holds itself.
func RecordRing() any {
	r := Record("r", 1)
	r.Fields = api.Dict{Field("r", r)}
	return r
}

// RingOfThree goes through a list, a dict and a record.
func RingOfThree() any {
	r := Record("r", 1)
	l := api.List{api.Dict{Field("d", r)}}
	r.Fields = api.Dict{Field("l", l)}
	return l
}

// GoodNames are names, the longest among them.
func GoodNames() []string {
	return []string{"a", "z", "a0", "a9", "a_", "zz", "a_b_9", "abcdefghijklmnopqrstuvwxyz", strings.Repeat("a", api.MaxName)}
}

// BadNames are no names.
func BadNames() []string {
	return []string{"", "A", "0", "9a", "_", "_a", "aA", "a b", "a-b", "a.b", "a\x00", "\x00", " a", "a ", "é", "aé", "a\xff", "`", "{", "a`", "a{", "a/", "a:", "a^", "a@", "a[", strings.Repeat("a", api.MaxName+1)}
}
