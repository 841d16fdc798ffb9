package check

import "tenon/api"

// narrowed is a value as far as it is of a type.
type narrowed struct {
	v     any
	ok    bool // there is one
	whole bool // it is the value itself, which is of the type
}

// narrow is of a value that can be and that nobody else has: the answer is made of its parts. Whether a part is of its type is told along with what is left of it, so that no part is held against a type twice.
func (s *shape) narrow(v any) narrowed {
	switch s.kind {
	case api.TList:
		if l, ok := v.(api.List); ok {
			return s.narrowList(l)
		}
	case api.TDict:
		if d, ok := v.(api.Dict); ok {
			return s.narrowDict(d)
		}
	case api.TUnion:
		return s.narrowUnion(v)
	}
	if ok, _ := s.has(v); !ok {
		return narrowed{}
	}
	return narrowed{v, true, true}
}

func (s *shape) narrowList(l api.List) narrowed {
	kept, whole := api.List{}, true
	for _, v := range l {
		n := s.parts[0].narrow(v)
		whole = whole && n.whole
		if n.ok {
			kept = append(kept, n.v)
		}
	}
	return narrowed{kept, true, whole}
}

func (s *shape) narrowDict(d api.Dict) narrowed {
	kept, whole := api.Dict{}, true
	for i, j := range together(s.names, d, withField) {
		var n narrowed
		if j >= 0 {
			n = s.narrowField(i, d[j].Value)
			whole = whole && n.whole
		}
		switch {
		case n.ok:
			kept = append(kept, api.Field{Name: d[j].Name, Value: n.v})
		case i >= 0 && !s.lacks[i]:
			return narrowed{}
		}
	}
	return narrowed{kept, true, whole}
}

// narrowField is of the value of a field that has the name at that place, or, at a place below 0, none of the type's names.
func (s *shape) narrowField(place int, v any) narrowed {
	if place >= 0 {
		return s.parts[place].narrow(v)
	}
	if s.open {
		return narrowed{v, true, true}
	}
	return narrowed{}
}

// narrowUnion tells the value itself if it is of any part, be there one ahead that has something of it, too.
func (s *shape) narrowUnion(v any) narrowed {
	var first narrowed
	for _, part := range s.parts {
		n := part.narrow(v)
		if n.whole {
			return n
		}
		if n.ok && !first.ok {
			first = n
		}
	}
	return first
}
