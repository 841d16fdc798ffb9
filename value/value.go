// Package value is layer 1: values of any type, told apart by assertion: see DOC.md and doc/01-value.md.
package value

import "tenon/api"

// Kind is a value's kind, by the Go type that the interface holds.
func Kind(v any) int { return kindOf(v) }

// Check tells whether a value can be: with an error the number of the first part at which it can't.
func Check(v any) (int, api.Errno) {
	var w walk
	if e := w.value(v, 1); e != api.OK {
		return w.parts - 1, e
	}
	return 0, api.OK
}

// Of is the value of a term.
func Of(t api.Term) (any, api.Errno) {
	var w walk
	if e := w.term(t, 1); e != api.OK {
		return nil, e
	}
	return valueOf(t), api.OK
}

// Plain is the term of a value.
func Plain(v any) (api.Term, api.Errno) {
	if _, e := Check(v); e != api.OK {
		return api.Term{}, e
	}
	return termOf(v), api.OK
}

// Same tells whether two values can be and are one and the same. It asks Order, so that the two can't come to disagree.
func Same(a, b any) bool {
	n, e := Order(a, b)
	return e == api.OK && n == 0
}

// Order tells which of two values comes first: -1, 0 or 1.
func Order(a, b any) (int, api.Errno) {
	if _, e := Check(a); e != api.OK {
		return 0, e
	}
	if _, e := Check(b); e != api.OK {
		return 0, e
	}
	return order(a, b), api.OK
}

// Copy is the same value in memory of its own.
func Copy(v any) (any, api.Errno) {
	if _, e := Check(v); e != api.OK {
		return nil, e
	}
	return copyOf(v), api.OK
}

// Size is how many parts a value has, and how deep the deepest of them lies.
func Size(v any) (int, int, api.Errno) {
	var w walk
	if e := w.value(v, 1); e != api.OK {
		return 0, 0, e
	}
	return w.parts, w.deepest, api.OK
}

// kindOf stands apart from Kind so that the walks within this package have it, too. A type of the same make as one of these, but of another name, is an alien.
func kindOf(v any) int {
	switch x := v.(type) {
	case nil:
		return api.KNil
	case bool:
		return api.KBool
	case int64:
		return api.KInt
	case float64:
		return api.KFloat
	case string:
		return api.KText
	case []byte:
		return api.KBytes
	case api.Ref:
		return api.KRef
	case api.List:
		return api.KList
	case api.Dict:
		return api.KDict
	case *api.Record:
		if x == nil {
			return api.KNothing
		}
		return api.KRecord
	}
	return api.KAlien
}
