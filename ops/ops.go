// Package ops holds the Ops of expressions (chapter 17), so that all layers go by one list; those of signs are the signs.
package ops

// The Ops.
const (
	Or      = "or"
	And     = "and"
	Not     = "not"
	Equal   = "="
	Unequal = "!="
	Less    = "<"
	UpTo    = "<="
	More    = ">"
	From    = ">="
	In      = "in"
	Is      = "is"
	Plus    = "+"
	Minus   = "-"
	Times   = "*"
	Divide  = "/"
	Rest    = "%"
	Neg     = "neg"
	Dot     = "dot"
	At      = "at"
	Value   = "value"
	Self    = "self"
	Field   = "field"
	List    = "list"
	Call    = "call"
)
