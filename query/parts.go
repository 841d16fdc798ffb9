package query

import (
	"slices"
	"strings"

	"tenon/api"
	"tenon/kinds"
	"tenon/ops"
	"tenon/value"
)

// called is what a function answers that asks each of its parts once.
func called(function string, of []any) (any, bool) {
	switch function {
	case callLen:
		return length(of[0])
	case callKind:
		return kinds.Word(value.Kind(of[0])), true
	case callKeys:
		return keys(of[0])
	case callHas:
		return has(of[0], of[1])
	}
	l, is := of[0].(api.List)
	if !is {
		return nil, false
	}
	switch function {
	case callFirst:
		return nth(l, 0), true
	case callLast:
		return nth(l, -1), true
	case callLeast:
		return leader(ops.Less, l)
	case callMost:
		return leader(ops.More, l)
	}
	return total(l)
}

func length(v any) (any, bool) {
	switch x := v.(type) {
	case string:
		return int64(len(x)), true
	case []byte:
		return int64(len(x)), true
	case api.List:
		return int64(len(x)), true
	}
	fields, are := fieldsOf(v)
	return int64(len(fields)), are
}

func keys(v any) (any, bool) {
	fields, are := fieldsOf(v)
	var l api.List
	for _, f := range fields {
		l = append(l, f.Name)
	}
	return l, are
}

// has tells whether something stands under a name; nothing does under what is no name.
func has(v, name any) (any, bool) {
	fields, are := fieldsOf(v)
	text, is := name.(string)
	_, there := find(fields, text)
	return there, are && is
}

// lies tells whether a value lies in a list, or is a name under which something stands.
func lies(v, in any) (any, bool) {
	if l, is := in.(api.List); is {
		return slices.ContainsFunc(l, func(part any) bool { return equal(v, part) }), true
	}
	return has(in, v)
}

// at is what stands at a position, or under a name; nil, if nothing does.
func at(v, where any) (any, bool) {
	switch x := where.(type) {
	case int64:
		l, is := v.(api.List)
		return nth(l, x), is
	case string:
		return under(v, x)
	}
	return nil, false
}

// under is what stands under a name; nil, if nothing does.
func under(v any, name string) (any, bool) {
	fields, are := fieldsOf(v)
	i, there := find(fields, name)
	if !there {
		return nil, are
	}
	return fields[i].Value, true
}

// nth is the value at a position, below 0 from the end; nil, if there is none.
func nth(l api.List, n int64) any {
	if n < 0 {
		n += int64(len(l))
	}
	if n < 0 || n >= int64(len(l)) {
		return nil
	}
	return l[n]
}

// leader is the value ahead of which, by a sign, none stands that comes behind it. The first one is held against itself: it may be of a kind that can't be.
func leader(sign string, l api.List) (any, bool) {
	leads := nth(l, 0)
	for _, v := range l {
		ahead, can := held(sign, v, leads)
		if !can {
			return nil, false
		}
		if ahead {
			leads = v
		}
	}
	return leads, true
}

func total(l api.List) (any, bool) {
	var sum any = int64(0)
	for _, v := range l {
		next, can := reckoned(ops.Plus, sum, v)
		if !can {
			return nil, false
		}
		sum = next
	}
	return sum, true
}

// fieldsOf is what a dict or record has, whose names rise.
func fieldsOf(v any) (api.Dict, bool) {
	switch x := v.(type) {
	case api.Dict:
		return x, true
	case *api.Record:
		return x.Fields, true
	}
	return nil, false
}

func find(fields api.Dict, name string) (int, bool) {
	return slices.BinarySearchFunc(fields, name, func(f api.Field, name string) int { return strings.Compare(f.Name, name) })
}
