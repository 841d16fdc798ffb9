package schema

import (
	"slices"
	"strings"

	"tenon/api"
	"tenon/classes"
	"tenon/types"
)

// defineRule tells whether a class can come to those that are there.
func (s *Schema) defineRule(c api.Class) api.Errno {
	if e := classes.Rule(c); e != api.OK {
		return e
	}
	parents := s.line(c.Parent, c.ParentVersion)
	switch {
	case s.has(c.Name, c.Version):
		return api.ErrDefined
	case c.Version != s.Latest(c.Name)+1:
		return api.ErrGap
	case c.Parent != "" && len(parents) == 0, len(parents)+1 > api.MaxDepth:
		return api.ErrParent
	case slices.ContainsFunc(c.Fields, func(f api.FieldOf) bool { return lineHas(parents, f.Name) }):
		return api.ErrField
	case len(c.Fields)+fieldsNumber(parents) > api.MaxItems, len(s.classes)+1 > api.MaxItems:
		return api.ErrLong
	}
	return api.OK
}

// lineHas tells whether a class of a line has a field of that name of its own.
func lineHas(line []api.Class, name string) bool {
	for _, c := range line {
		_, there := slices.BinarySearchFunc(c.Fields, name, func(f api.FieldOf, name string) int { return strings.Compare(f.Name, name) })
		if there {
			return true
		}
	}
	return false
}

func fieldsNumber(line []api.Class) int {
	n := 0
	for _, c := range line {
		n += len(c.Fields)
	}
	return n
}

// copyClass is of a class that can be: the same in memory of its own, without what plays no part.
func copyClass(c api.Class) api.Class {
	c.Name, c.Parent = strings.Clone(c.Name), strings.Clone(c.Parent)
	c.Fields = copyFields(c.Fields)
	return c
}

func copyFields(l []api.FieldOf) []api.FieldOf {
	fields := make([]api.FieldOf, len(l))
	for i, f := range l {
		fields[i] = api.FieldOf{Name: strings.Clone(f.Name), Was: strings.Clone(f.Was), Type: types.Copy(f.Type), Has: f.Has}
		if f.Has {
			fields[i].Default = types.CopyTerm(f.Default)
		}
	}
	return fields
}
