// Package types holds the rule of which types can be (chapter 7), so that all layers go by one, tells which are the same, and copies types and terms.
package types

import (
	"slices"
	"strings"

	"tenon/api"
	"tenon/names"
	"tenon/value"
)

// Can tells whether a type can be. Its terms are asked last: by then it is known that there are not too many of them, even where a type holds itself.
func Can(t api.Type) bool {
	var w walk
	return w.fits(t, 1) && termsFit(t)
}

// Same is of types that can be: whether all that their kinds use is the same.
func Same(a, b api.Type) bool {
	if a.Kind != b.Kind || !ownSame(a, b) {
		return false
	}
	return slices.EqualFunc(partsOf(a), partsOf(b), Same)
}

// Copy is of a type that can be: the same in memory of its own, all that its kind does not use being zero.
func Copy(t api.Type) api.Type {
	c := api.Type{Kind: t.Kind}
	switch t.Kind {
	case api.TKind:
		c.Of = t.Of
	case api.TOnly:
		c.Only = CopyTerm(t.Only)
	case api.TDict:
		c.Lacks, c.Open = slices.Clone(t.Lacks), t.Open
		for _, name := range t.Names {
			c.Names = append(c.Names, strings.Clone(name))
		}
	case api.TRecord:
		c.Class = strings.Clone(t.Class)
	}
	for _, part := range partsOf(t) {
		c.Parts = append(c.Parts, Copy(part))
	}
	return c
}

// CopyTerm is likewise of a term that can be.
func CopyTerm(t api.Term) api.Term {
	v, _ := value.Of(t)
	c, _ := value.Plain(v)
	return c
}

// ownSame is of what two types of one kind use, but for their parts.
func ownSame(a, b api.Type) bool {
	switch a.Kind {
	case api.TKind:
		return a.Of == b.Of
	case api.TOnly:
		v, _ := value.Of(a.Only)
		w, _ := value.Of(b.Only)
		return value.Same(v, w)
	case api.TDict:
		return a.Open == b.Open && slices.Equal(a.Names, b.Names) && slices.Equal(a.Lacks, b.Lacks)
	case api.TRecord:
		return a.Class == b.Class
	}
	return true
}

// walk goes through the types of which a type is made. It gives up at the first one that is wrong or one too many; so its way is bounded by the limits even where a type holds itself.
type walk struct{ types int }

func (w *walk) fits(t api.Type, depth int) bool {
	w.types++
	if w.types > api.MaxNodes || depth > api.MaxDepth || !ownFits(t) {
		return false
	}
	for _, part := range partsOf(t) {
		if !w.fits(part, depth+1) {
			return false
		}
	}
	return true
}

// ownFits is of what a type's kind uses, but for its term and for what its parts use.
func ownFits(t api.Type) bool {
	switch t.Kind {
	case api.TAny, api.TNone, api.TOnly:
		return true
	case api.TKind:
		return api.KNil <= t.Of && t.Of <= api.KRecord
	case api.TList:
		return len(t.Parts) == 1
	case api.TDict:
		return len(t.Names) == len(t.Parts) && len(t.Names) == len(t.Lacks) && namesFit(t.Names)
	case api.TUnion:
		return len(t.Parts) >= 2
	case api.TRecord:
		return names.Is(t.Class)
	}
	return false
}

func namesFit(l []string) bool {
	if len(l) > api.MaxItems {
		return false
	}
	ahead := "" // every name is above it
	for _, name := range l {
		if !names.Is(name) || name <= ahead {
			return false
		}
		ahead = name
	}
	return true
}

func termsFit(t api.Type) bool {
	if t.Kind == api.TOnly {
		_, e := value.Of(t.Only)
		return e == api.OK
	}
	for _, part := range partsOf(t) {
		if !termsFit(part) {
			return false
		}
	}
	return true
}

// partsOf is none where the kind does not use them, whatever stands there.
func partsOf(t api.Type) []api.Type {
	switch t.Kind {
	case api.TList, api.TDict, api.TUnion:
		return t.Parts
	}
	return nil
}
