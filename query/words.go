package query

// The Ops of expressions; those of signs are the signs.
const (
	opOr      = "or"
	opAnd     = "and"
	opNot     = "not"
	opEqual   = "="
	opUnequal = "!="
	opLess    = "<"
	opUpTo    = "<="
	opMore    = ">"
	opFrom    = ">="
	opIn      = "in"
	opIs      = "is"
	opPlus    = "+"
	opMinus   = "-"
	opTimes   = "*"
	opDivide  = "/"
	opRest    = "%"
	opNeg     = "neg"
	opDot     = "dot"
	opAt      = "at"
	opValue   = "value"
	opSelf    = "self"
	opField   = "field"
	opList    = "list"
	opCall    = "call"
)

// The functions.
const (
	callLen   = "len"
	callKind  = "kind"
	callKeys  = "keys"
	callFirst = "first"
	callLast  = "last"
	callSum   = "sum"
	callLeast = "least"
	callMost  = "most"
	callHas   = "has"
	callAny   = "any"
	callAll   = "all"
	callMap   = "map"
	callPick  = "pick"
)

// The words that are Ops of no level by themselves, and are no names either.
const (
	wordNil   = "nil"
	wordTrue  = "true"
	wordFalse = "false"
	wordNaN   = "nan"
)

// The levels, of which the lower ones stand around the higher ones.
const (
	ofOr = 1 + iota
	ofAnd
	ofNot
	ofSigns
	ofSums
	ofProducts
	ofNeg
	ofWays
	ofThings
)

// level is an Op's; 0, if it is none.
func level(op string) int {
	switch op {
	case opOr:
		return ofOr
	case opAnd:
		return ofAnd
	case opNot:
		return ofNot
	case opEqual, opUnequal, opLess, opUpTo, opMore, opFrom, opIn, opIs:
		return ofSigns
	case opPlus, opMinus:
		return ofSums
	case opTimes, opDivide, opRest:
		return ofProducts
	case opNeg:
		return ofNeg
	case opDot, opAt:
		return ofWays
	case opValue, opSelf, opField, opList, opCall:
		return ofThings
	}
	return 0
}

// partsTaken is how many Parts a function takes; 0, if it is none.
func partsTaken(function string) int {
	switch function {
	case callLen, callKind, callKeys, callFirst, callLast, callSum, callLeast, callMost:
		return 1
	case callHas, callAny, callAll, callMap, callPick:
		return 2
	}
	return 0
}

// asksEach tells whether a function asks its second Part of each of a list's values, which is self there.
func asksEach(function string) bool {
	return function == callAny || function == callAll || function == callMap || function == callPick
}

// reserved tells whether a word is no name, though it looks like one.
func reserved(word string) bool {
	switch word {
	case opOr, opAnd, opNot, opIn, opIs, opSelf, wordNil, wordTrue, wordFalse, wordNaN:
		return true
	}
	return false
}
