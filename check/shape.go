package check

import (
	"iter"
	"slices"
	"strings"

	"tenon/api"
	"tenon/types"
	"tenon/value"
)

// shape is a type made ready to be held against values and other types: it has what its kind uses and no more, a value for its term, and tells how great it is without being walked. Nobody writes into a shape that is made, so shapes may share their parts.
type shape struct {
	kind  int
	of    int
	only  any
	size  int // how many parts only has
	parts []*shape
	names []string
	lacks []bool
	open  bool
	class string
	types int // in all, itself among them
	depth int // of its deepest type
}

// made counts a shape whose parts are counted.
func made(s shape) *shape {
	s.types, s.depth = 1, 1
	for _, part := range s.parts {
		s.types += part.types
		s.depth = max(s.depth, 1+part.depth)
	}
	return &s
}

// can tells whether a shape is a type that can be, where nothing but its greatness is in question.
func (s *shape) can() bool { return s.types <= api.MaxNodes && s.depth <= api.MaxDepth }

// shapeOf is the shape of a type, if that can be.
func shapeOf(t api.Type) (*shape, api.Errno) {
	if !types.Can(t) {
		return nil, api.ErrType
	}
	return shaped(&t), api.OK
}

func shapesOf(a, b api.Type) (*shape, *shape, api.Errno) {
	x, e := shapeOf(a)
	if e != api.OK {
		return nil, nil, e
	}
	y, e := shapeOf(b)
	if e != api.OK {
		return nil, nil, e
	}
	return x, y, api.OK
}

// shaped is of a type that can be.
func shaped(t *api.Type) *shape {
	s := shape{kind: t.Kind}
	switch t.Kind {
	case api.TKind:
		s.of = t.Of
	case api.TOnly:
		s.only, _ = value.Of(t.Only)
		s.size = sizeOf(s.only)
	case api.TList, api.TUnion:
		s.parts = shapedAll(t.Parts)
	case api.TDict:
		s.parts, s.names, s.lacks, s.open = shapedAll(t.Parts), t.Names, t.Lacks, t.Open
	case api.TRecord:
		s.class = t.Class
	}
	return made(s)
}

func shapedAll(l []api.Type) []*shape {
	shapes := make([]*shape, len(l))
	for i := range l {
		shapes[i] = shaped(&l[i])
	}
	return shapes
}

// asType is the type of a shape, in memory of its own.
func (s *shape) asType() api.Type {
	t := api.Type{Kind: s.kind, Of: s.of, Lacks: slices.Clone(s.lacks), Open: s.open, Class: strings.Clone(s.class)}
	if s.kind == api.TOnly {
		t.Only, _ = value.Plain(s.only)
	}
	for _, name := range s.names {
		t.Names = append(t.Names, strings.Clone(name))
	}
	for _, part := range s.parts {
		t.Parts = append(t.Parts, part.asType())
	}
	return t
}

// sizeOf is how many parts a value has that can be.
func sizeOf(v any) int {
	n, _, _ := value.Size(v)
	return n
}

// together goes through two rising rows as through one: of each name it tells the place in either row, -1 where it is not there.
func together[A, B any](a []A, b []B, order func(A, B) int) iter.Seq2[int, int] {
	return func(show func(i, j int) bool) {
		i, j := 0, 0
		for more := true; more && (i < len(a) || j < len(b)); {
			n := 0
			switch {
			case i == len(a):
				n = 1
			case j == len(b):
				n = -1
			default:
				n = order(a[i], b[j])
			}
			switch {
			case n < 0:
				more = show(i, -1)
				i++
			case n > 0:
				more = show(-1, j)
				j++
			default:
				more = show(i, j)
				i, j = i+1, j+1
			}
		}
	}
}

// withField orders a name and a field's name.
func withField(name string, f api.Field) int { return strings.Compare(name, f.Name) }
