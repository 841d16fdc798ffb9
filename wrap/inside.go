package wrap

import (
	"tenon/api"
	"tenon/object"
)

// wrapper is what only this package's wrappers are: nobody else can have a method of that name.
type wrapper interface {
	api.Object
	inside() api.Object
}

// inside is what a wrapper was made around; false: it is none.
func inside(o api.Object) (api.Object, bool) {
	if w, ok := o.(wrapper); ok {
		return w.inside(), true
	}
	return nil, false
}

// innermost is the object within all wrappers, and how many they are.
func innermost(o api.Object) (api.Object, int) {
	deep := 0
	for in, ok := inside(o); ok; in, ok = inside(in) {
		o = in
		deep++
	}
	return o, deep
}

// wrappable is what an object has, if a wrapper can be made around it.
func wrappable(o api.Object) (int, api.Errno) {
	had, e := object.Abilities(o)
	if e != api.OK {
		return 0, e
	}
	if _, deep := innermost(o); deep >= maxDeep {
		return 0, api.ErrLong
	}
	return had, api.OK
}

// isSet tells whether a number is those of some abilities, added up.
func isSet(has int) bool { return 0 <= has && has <= allAbilities }
