package check

import (
	"tenon/api"
	"tenon/value"
)

// typeOf is of a value that can be.
func typeOf(v any) *shape {
	switch x := v.(type) {
	case api.List:
		part := made(shape{kind: api.TNone}) // it is plainly of the first value's type, so that Either of the two is that
		for _, v := range x {
			part = orAny(either(part, typeOf(v)))
		}
		return orAny(made(shape{kind: api.TList, parts: []*shape{part}}))
	case api.Dict:
		s := shape{kind: api.TDict, lacks: make([]bool, len(x))}
		for _, f := range x {
			s.names, s.parts = append(s.names, f.Name), append(s.parts, typeOf(f.Value))
		}
		return orAny(made(s))
	case *api.Record:
		return made(shape{kind: api.TRecord, class: x.Class})
	}
	return made(shape{kind: api.TKind, of: value.Kind(v)})
}

// orAny is the shape, or, if that can't be a type, the one of all values.
func orAny(s *shape) *shape {
	if s.can() {
		return s
	}
	return made(shape{kind: api.TAny})
}
