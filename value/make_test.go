package value_test

import (
	"tenon/api"
	"tenon/sample"
)

// What the tests of this package are made of.

type word string    // of a text's make, but another type
type octets []byte  // of bytes' make
type values []any   // of a list's make
type number int64   // of an int64's make
type twice struct { // has a record's fields by embedding
	*api.Record
}

func entry(name string, t api.Term) api.Entry { return api.Entry{Name: name, Value: t} }

func termRing() api.Term {
	l := make([]api.Term, 1)
	l[0] = api.Term{Kind: api.KList, List: l}
	return l[0]
}

func entryRing() api.Term {
	l := make([]api.Entry, 1)
	l[0] = entry("a", api.Term{Kind: api.KRecord, Class: "r", Version: 1, Fields: l})
	return l[0].Value
}

// aliens are values of no kind, some of which Go can't compare.
func aliens() []any {
	text, list, ref := "a", api.List{}, api.Ref(1)
	r := sample.Record("a", 1)
	return []any{
		7, int8(7), int16(7), int32(7), uint(7), uint8(7), uint16(7), uint32(7), uint64(7), uintptr(7), float32(7), complex64(7), complex128(7), 'a',
		word("a"), octets{1}, values{nil}, number(7),
		[]any{}, []any(nil), []string{"a"}, [1]byte{1}, [1]any{func() {}}, []api.Field{}, []api.Term{}, []int64(nil),
		api.Record{Class: "a", Version: 1}, api.Field{}, api.Term{Kind: api.KNil}, api.Entry{}, api.OK, api.Stored{}, twice{r}, twice{},
		&text, &list, &ref, &r, (*string)(nil), (*api.List)(nil), (*api.Dict)(nil), (**api.Record)(nil), (*any)(nil), (*api.Term)(nil), (*int64)(nil),
		map[string]int{}, map[string]any(nil), func() {}, (func())(nil), make(chan int), (chan int)(nil), struct{}{}, struct{ f func() }{}, error(api.ErrArg),
	}
}
