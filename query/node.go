package query

import (
	"math"

	"tenon/api"
	"tenon/names"
	"tenon/ops"
	"tenon/scan"
	"tenon/value"
)

// node is an expression that can be, ready to be asked.
type node struct {
	op    string
	at    int
	name  string
	value any // what a value is
	parts []node
}

// giveUp is where an answer can't go on.
func (n *node) giveUp(why api.Errno) { panic(scan.Fault{At: n.at, Why: why}) }

// ready is the node of an expression, if that can be.
func ready(e api.Expr) (node, bool) {
	var m maker
	return m.node(e)
}

// maker counts the nodes that it makes: so it comes to an end where an expression holds itself, too.
type maker struct{ nodes int }

func (m *maker) node(e api.Expr) (node, bool) {
	m.nodes++
	if m.nodes > api.MaxNodes || !partsFit(e) || !nameFits(e) {
		return node{}, false
	}
	n := node{op: e.Op, at: e.At, name: e.Name}
	if e.Op == ops.Value {
		v, can := constant(e.Value)
		if !can {
			return node{}, false
		}
		n.value = v
	}
	for _, e := range e.Parts {
		part, can := m.node(e)
		if !can {
			return node{}, false
		}
		n.parts = append(n.parts, part)
	}
	return n, true
}

// partsFit tells whether an expression's Op is one, and has as many Parts as it asks.
func partsFit(e api.Expr) bool {
	switch e.Op {
	case ops.List:
		return true
	case ops.Value, ops.Self, ops.Field:
		return len(e.Parts) == 0
	case ops.Not, ops.Neg, ops.Is, ops.Dot:
		return len(e.Parts) == 1
	case ops.Call:
		return len(e.Parts) == partsTaken(e.Name)
	}
	return level(e.Op) > 0 && len(e.Parts) == 2
}

func nameFits(e api.Expr) bool {
	switch e.Op {
	case ops.Field:
		return isField(e.Name)
	case ops.Dot:
		return names.Is(e.Name)
	case ops.Is:
		return isKind(e.Name)
	case ops.Call:
		return partsTaken(e.Name) > 0
	}
	return true
}

// constant is the value of a term that may stand in an expression: of a number there is no sign, which would be an expression of its own.
func constant(t api.Term) (any, bool) {
	switch t.Kind {
	case api.KNil, api.KBool, api.KText, api.KBytes, api.KRef:
	case api.KInt:
		if t.Int < 0 {
			return nil, false
		}
	case api.KFloat:
		if math.Signbit(t.Float) || math.IsNaN(t.Float) || math.IsInf(t.Float, 0) {
			return nil, false
		}
	default:
		return nil, false
	}
	v, e := value.Of(t)
	return v, e == api.OK
}

// own shows the names that are asked of the value itself. In a second Part that is asked of each value self is another one.
func (n *node) own(show func(name string)) {
	parts := n.parts
	switch n.op {
	case ops.Field:
		show(n.name)
	case ops.Dot:
		if parts[0].op == ops.Self {
			show(n.name)
		}
	case ops.At:
		if name, is := parts[1].value.(string); is && names.Is(name) && parts[0].op == ops.Self {
			show(name)
		}
	case ops.Call:
		if asksEach(n.name) {
			parts = parts[:1]
		}
	}
	for i := range parts {
		parts[i].own(show)
	}
}
