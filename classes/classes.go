// Package classes holds the rule of which classes can be (chapter 6), so that all layers go by one.
package classes

import (
	"tenon/api"
	"tenon/names"
	"tenon/types"
	"tenon/value"
)

// Rule tells whether a class can be, whatever else is there: OK, or why it can't.
func Rule(c api.Class) api.Errno {
	switch {
	case !names.Is(c.Name):
		return api.ErrName
	case !isVersion(c.Version):
		return api.ErrArg
	case !isNameOrNone(c.Parent):
		return api.ErrName
	case c.Parent == "" && c.ParentVersion != 0, c.Parent != "" && !isVersion(c.ParentVersion):
		return api.ErrArg
	case len(c.Fields) > api.MaxItems:
		return api.ErrLong
	}
	ahead := "" // every name is above it
	for _, f := range c.Fields {
		if e := fieldRule(f, ahead); e != api.OK {
			return e
		}
		ahead = f.Name
	}
	return api.OK
}

// fieldRule is of a field that comes behind one of the name ahead.
func fieldRule(f api.FieldOf, ahead string) api.Errno {
	switch {
	case !names.Is(f.Name) || f.Name <= ahead || !isNameOrNone(f.Was):
		return api.ErrName
	case !types.Can(f.Type):
		return api.ErrType
	case !f.Has:
		return api.OK
	}
	_, e := value.Of(f.Default)
	return e
}

func isVersion(n int) bool { return 1 <= n && n <= api.MaxVersion }

func isNameOrNone(s string) bool { return s == "" || names.Is(s) }
