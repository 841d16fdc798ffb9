package path

import (
	"slices"
	"strings"

	"tenon/api"
	"tenon/value"
)

// tell is told of an edit. It may keep the value, not the way.
type tell func(what int, way []api.Step, x any)

// edits is what makes b of a. Both are copies of what was handed in, and no part of b comes into two edits: so the parts themselves are handed out.
func edits(a, b any) []api.Edit {
	l := []api.Edit{}
	compare(nil, a, b, func(what int, way []api.Step, x any) {
		l = append(l, api.Edit{What: what, Way: slices.Clone(way), Value: x})
	})
	return l
}

// compare tells the edits between two parts that lie at one way. Two of which nothing is told are the same, so that this is asked only where there is nothing within to go into.
func compare(way []api.Step, a, b any, to tell) {
	switch x := a.(type) {
	case api.List:
		if y, ok := b.(api.List); ok {
			compareLists(way, x, y, to)
			return
		}
	case api.Dict:
		if y, ok := b.(api.Dict); ok {
			compareFields(way, x, y, to)
			return
		}
	case *api.Record:
		if y, ok := b.(*api.Record); ok && x.Class == y.Class && x.Version == y.Version {
			compareFields(way, x.Fields, y.Fields, to)
			return
		}
	}
	if !value.Same(a, b) {
		to(api.Set, way, b)
	}
}

func compareLists(way []api.Step, a, b api.List, to tell) {
	at := func(i int) []api.Step { return append(way, api.Step{At: true, Index: i}) }
	both := min(len(a), len(b))
	for i := range both {
		compare(at(i), a[i], b[i], to)
	}
	for i := len(a) - 1; i >= both; i-- { // a list loses its last value alone
		to(api.Drop, at(i), nil)
	}
	for i := both; i < len(b); i++ {
		to(api.Add, at(i), b[i])
	}
}

func compareFields(way []api.Step, a, b api.Dict, to tell) {
	at := func(name string) []api.Step { return append(way, api.Step{Name: name}) }
	for len(a) > 0 || len(b) > 0 {
		switch firstName(a, b) {
		case -1:
			to(api.Drop, at(a[0].Name), nil)
			a = a[1:]
		case 1:
			to(api.Add, at(b[0].Name), b[0].Value)
			b = b[1:]
		default:
			compare(at(a[0].Name), a[0].Value, b[0].Value, to)
			a, b = a[1:], b[1:]
		}
	}
}

// firstName tells which of two runs of fields, one of which is not at its end, has the next name: -1, 1, or 0, if both have.
func firstName(a, b api.Dict) int {
	switch {
	case len(b) == 0:
		return -1
	case len(a) == 0:
		return 1
	}
	return strings.Compare(a[0].Name, b[0].Name)
}
