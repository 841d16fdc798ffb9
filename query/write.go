package query

import (
	"tenon/api"
	"tenon/ops"
	"tenon/text"
	"tenon/value"
)

// appendText puts a node's text behind what is written already.
func (n *node) appendText(b []byte) []byte {
	switch n.op {
	case ops.Value:
		s, _ := text.Print(n.value)
		return append(b, s...)
	case ops.Self:
		return append(b, ops.Self...)
	case ops.Field:
		return append(b, n.name...)
	case ops.List:
		return appendBracketed(b, "[", n.parts, "]")
	case ops.Call:
		return appendBracketed(append(b, n.name...), "(", n.parts, ")")
	case ops.Not:
		return n.parts[0].appendPart(append(b, "not "...), ofNot)
	case ops.Neg:
		return n.parts[0].appendPart(append(b, '-'), ofNeg)
	case ops.Dot:
		return append(append(n.parts[0].appendDotted(b), '.'), n.name...)
	case ops.At:
		return appendBracketed(n.parts[0].appendPart(b, ofWays), "[", n.parts[1:], "]")
	}
	return n.appendJoined(b)
}

// appendJoined is of what has a sign or word between its sides. What is of the same level stands at the left alone; of level 4 nothing is of the same one.
func (n *node) appendJoined(b []byte) []byte {
	left := level(n.op)
	right := left + 1
	if left == ofSigns {
		left = right
	}
	b = n.parts[0].appendPart(b, left)
	b = append(append(append(b, ' '), n.op...), ' ')
	if n.op == ops.Is {
		return append(b, n.name...)
	}
	return n.parts[1].appendPart(b, right)
}

// appendPart sets brackets around a part whose level is lower than it must be.
func (n *node) appendPart(b []byte, least int) []byte {
	if level(n.op) >= least {
		return n.appendText(b)
	}
	return append(n.appendText(append(b, '(')), ')')
}

// appendDotted sets brackets around a number, too: without them the dot would be read as its own.
func (n *node) appendDotted(b []byte) []byte {
	least := ofWays
	if k := value.Kind(n.value); k == api.KInt || k == api.KFloat {
		least = ofThings + 1
	}
	return n.appendPart(b, least)
}

func appendBracketed(b []byte, open string, parts []node, shut string) []byte {
	b = append(b, open...)
	for i := range parts {
		if i > 0 {
			b = append(b, ", "...)
		}
		b = parts[i].appendText(b)
	}
	return append(b, shut...)
}
