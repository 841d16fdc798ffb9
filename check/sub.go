package check

import (
	"slices"
	"strings"

	"tenon/api"
)

// plainlyOf tells whether a type is plainly of another one. No two of their parts are held against each other twice, since of two unions it is always the first that is taken apart.
func (s *shape) plainlyOf(b *shape) bool {
	switch {
	case b.kind == api.TAny || s.kind == api.TNone:
		return true
	case s.kind == api.TUnion:
		return !slices.ContainsFunc(s.parts, func(part *shape) bool { return !part.plainlyOf(b) })
	case b.kind == api.TUnion:
		return slices.ContainsFunc(b.parts, func(part *shape) bool { return s.plainlyOf(part) })
	}
	switch s.kind {
	case api.TOnly:
		ok, _ := b.has(s.only)
		return ok
	case api.TKind:
		return b.isKind(s.of)
	case api.TList:
		return b.isKind(api.KList) || b.kind == api.TList && s.parts[0].plainlyOf(b.parts[0])
	case api.TDict:
		return b.isKind(api.KDict) || b.kind == api.TDict && s.fieldsPlainlyOf(b)
	case api.TRecord:
		return b.isKind(api.KRecord) || b.kind == api.TRecord && s.class == b.class
	}
	return false
}

// isKind tells whether a type is that of all values of a kind.
func (s *shape) isKind(kind int) bool { return s.kind == api.TKind && s.of == kind }

// fieldsPlainlyOf is of two dicts' types.
func (s *shape) fieldsPlainlyOf(b *shape) bool {
	if s.open && !b.open {
		return false
	}
	for i, j := range together(s.names, b.names, strings.Compare) {
		var fits bool
		switch {
		case i < 0:
			fits = b.lacks[j] && !s.open
		case j < 0:
			fits = b.open
		default:
			fits = (b.lacks[j] || !s.lacks[i]) && s.parts[i].plainlyOf(b.parts[j])
		}
		if !fits {
			return false
		}
	}
	return true
}

// either is a type of what is of one of two types; it may be too great to be one.
func either(a, b *shape) *shape {
	switch {
	case a.plainlyOf(b):
		return b
	case b.plainlyOf(a):
		return a
	}
	return made(shape{kind: api.TUnion, parts: slices.Concat(a.choices(), b.choices())})
}

// choices are the parts of a union; another type is the only one of its own.
func (s *shape) choices() []*shape {
	if s.kind == api.TUnion {
		return s.parts
	}
	return []*shape{s}
}
