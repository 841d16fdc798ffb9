package query

import "tenon/ops"

// The functions.
const (
	callLen   = "len"
	callKind  = "kind"
	callKeys  = "keys"
	callFirst = "first"
	callLast  = "last"
	callSum   = "sum"
	callLeast = "least"
	callMost  = "most"
	callHas   = "has"
	callAny   = "any"
	callAll   = "all"
	callMap   = "map"
	callPick  = "pick"
)

// The words that are Ops of no level by themselves, and are no names either.
const (
	wordNil   = "nil"
	wordTrue  = "true"
	wordFalse = "false"
	wordNaN   = "nan"
)

// The levels, of which the lower ones stand around the higher ones.
const (
	ofOr = 1 + iota
	ofAnd
	ofNot
	ofSigns
	ofSums
	ofProducts
	ofNeg
	ofWays
	ofThings
)

// level is an Op's; 0, if it is none.
func level(op string) int {
	switch op {
	case ops.Or:
		return ofOr
	case ops.And:
		return ofAnd
	case ops.Not:
		return ofNot
	case ops.Equal, ops.Unequal, ops.Less, ops.UpTo, ops.More, ops.From, ops.In, ops.Is:
		return ofSigns
	case ops.Plus, ops.Minus:
		return ofSums
	case ops.Times, ops.Divide, ops.Rest:
		return ofProducts
	case ops.Neg:
		return ofNeg
	case ops.Dot, ops.At:
		return ofWays
	case ops.Value, ops.Self, ops.Field, ops.List, ops.Call:
		return ofThings
	}
	return 0
}

// partsTaken is how many Parts a function takes; 0, if it is none.
func partsTaken(function string) int {
	switch function {
	case callLen, callKind, callKeys, callFirst, callLast, callSum, callLeast, callMost:
		return 1
	case callHas, callAny, callAll, callMap, callPick:
		return 2
	}
	return 0
}

// asksEach tells whether a function asks its second Part of each of a list's values, which is self there.
func asksEach(function string) bool {
	return function == callAny || function == callAll || function == callMap || function == callPick
}

// reserved tells whether a word is no name, though it looks like one.
func reserved(word string) bool {
	switch word {
	case ops.Or, ops.And, ops.Not, ops.In, ops.Is, ops.Self, wordNil, wordTrue, wordFalse, wordNaN:
		return true
	}
	return false
}
