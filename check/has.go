package check

import (
	"slices"

	"tenon/api"
	"tenon/value"
)

// has tells whether a value, which can be, is of a type: if not, the number of the part at which it shows, counted from the value's own.
func (s *shape) has(v any) (bool, int) {
	switch s.kind {
	case api.TAny:
		return true, 0
	case api.TKind:
		return value.Kind(v) == s.of, 0
	case api.TOnly:
		return s.hasAlone(v), 0
	case api.TList:
		if l, ok := v.(api.List); ok {
			return s.hasList(l)
		}
	case api.TDict:
		if d, ok := v.(api.Dict); ok {
			return s.hasDict(d)
		}
	case api.TUnion:
		return slices.ContainsFunc(s.parts, func(part *shape) bool { ok, _ := part.has(v); return ok }), 0
	case api.TRecord:
		r, ok := v.(*api.Record)
		return ok && r.Class == s.class, 0
	}
	return false, 0
}

// hasAlone asks for the sizes first, since Same goes through the whole of both: so one great value is not gone through for each of many small ones.
func (s *shape) hasAlone(v any) bool {
	return sizeOf(v) == s.size && value.Same(v, s.only)
}

func (s *shape) hasList(l api.List) (bool, int) {
	for i, v := range l {
		if ok, at := s.parts[0].has(v); !ok {
			for _, ahead := range l[:i] {
				at += sizeOf(ahead)
			}
			return false, 1 + at
		}
	}
	return true, 0
}

func (s *shape) hasDict(d api.Dict) (bool, int) {
	for i, j := range together(s.names, d, withField) {
		switch {
		case i < 0 && !s.open, j < 0 && !s.lacks[i]:
			return false, 0
		case i < 0 || j < 0:
			continue
		}
		if ok, at := s.parts[i].has(d[j].Value); !ok {
			for _, ahead := range d[:j] {
				at += sizeOf(ahead.Value)
			}
			return false, 1 + at
		}
	}
	return true, 0
}
