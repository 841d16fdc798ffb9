package query

import (
	"slices"

	"tenon/api"
	"tenon/kinds"
	"tenon/ops"
	"tenon/value"
)

// walk asks the nodes of one answer. What they answer may share memory with the value and the expression; nobody writes into it.
type walk struct{ asked int }

// ask is what a node answers of a value.
func (w *walk) ask(n *node, self any) any {
	if w.asked == api.MaxSteps {
		n.giveUp(api.ErrLong)
	}
	w.asked++
	switch {
	case n.op == ops.Value:
		return n.value
	case n.op == ops.Self:
		return self
	case n.op == ops.Or || n.op == ops.And:
		return w.either(n, self)
	case n.op == ops.Call && asksEach(n.name):
		return w.each(n, self)
	}
	of := make([]any, len(n.parts))
	for i := range n.parts {
		of[i] = w.ask(&n.parts[i], self)
	}
	answer, can := n.answer(self, of)
	if !can {
		n.giveUp(api.ErrRun)
	}
	if n.op == ops.List || n.op == ops.Plus {
		n.mustBe(answer)
	}
	return answer
}

// either asks the right part only where the left one does not tell it all.
func (w *walk) either(n *node, self any) any {
	left := n.truth(w.ask(&n.parts[0], self))
	if left == (n.op == ops.Or) {
		return left
	}
	return n.truth(w.ask(&n.parts[1], self))
}

// each asks the second part of each value of a list, as far as it must.
func (w *walk) each(n *node, self any) any {
	l, is := w.ask(&n.parts[0], self).(api.List)
	if !is {
		n.giveUp(api.ErrRun)
	}
	holds := func(v any) bool { return n.truth(w.ask(&n.parts[1], v)) }
	switch n.name {
	case callAny:
		return slices.ContainsFunc(l, holds)
	case callAll:
		return !slices.ContainsFunc(l, func(v any) bool { return !holds(v) })
	}
	var answers api.List
	for _, v := range l {
		if n.name == callMap {
			answers = append(answers, w.ask(&n.parts[1], v))
		} else if holds(v) {
			answers = append(answers, v)
		}
	}
	if n.name == callMap {
		n.mustBe(answers)
	}
	return answers
}

// truth is what must be true or false for a node to go on.
func (n *node) truth(v any) bool {
	is, can := v.(bool)
	if !can {
		n.giveUp(api.ErrRun)
	}
	return is
}

// mustBe is of an answer that was put together, which may be too long, too deep or too much. All others are parts of what can be, or hold none: they are not looked through.
func (n *node) mustBe(answer any) {
	if _, e := value.Check(answer); e != api.OK {
		n.giveUp(e)
	}
}

// answer is what a node makes of what its parts answer, if these have such an operation.
func (n *node) answer(self any, of []any) (any, bool) {
	switch n.op {
	case ops.Field:
		return under(self, n.name)
	case ops.List:
		return api.List(of), true
	case ops.Call:
		return called(n.name, of)
	case ops.Not:
		is, can := of[0].(bool)
		return !is, can
	case ops.Neg:
		return negative(of[0])
	case ops.Dot:
		return under(of[0], n.name)
	case ops.Is:
		return kinds.Word(value.Kind(of[0])) == n.name, true
	}
	return joined(n.op, of[0], of[1])
}

// joined is of an Op that stands between its sides.
func joined(op string, a, b any) (any, bool) {
	switch op {
	case ops.At:
		return at(a, b)
	case ops.Equal:
		return equal(a, b), true
	case ops.Unequal:
		return !equal(a, b), true
	case ops.In:
		return lies(a, b)
	case ops.Less, ops.UpTo, ops.More, ops.From:
		return held(op, a, b)
	case ops.Plus:
		return together(a, b)
	}
	return reckoned(op, a, b)
}
