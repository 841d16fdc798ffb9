package path_test

import (
	"strings"
	"testing"

	"tenon/api"
	"tenon/path"
	"tenon/text"
	"tenon/value"
)

// What the tests of this package are made of.

// val is the value of a text.
func val(s string) any {
	v, at, e := text.Parse(s)
	if e != api.OK {
		panic(s[at:])
	}
	return v
}

// say is a value's text.
func say(v any) string {
	s, e := text.Print(v)
	if e != api.OK {
		return e.Error()
	}
	return s
}

func name(s string) api.Step { return api.Step{Name: s} }

func index(n int) api.Step { return api.Step{At: true, Index: n} }

func steps(l ...api.Step) []api.Step { return l }

// times is a way that takes one step again and again.
func times(n int, step api.Step) []api.Step {
	l := make([]api.Step, n)
	for i := range l {
		l[i] = step
	}
	return l
}

// way is the way of a text.
func way(s string) []api.Step {
	l, _, e := path.Parse(s)
	if e != api.OK {
		panic(s)
	}
	return l
}

// sayWay is a way's text.
func sayWay(l []api.Step) string {
	s, e := path.Print(l)
	if e != api.OK {
		return e.Error()
	}
	return s
}

// sayEdits is edits as one text: = is Set, + Add, - Drop.
func sayEdits(l []api.Edit) string {
	var out []string
	for _, x := range l {
		s := "?=+-"[x.What:x.What+1] + sayWay(x.Way)
		if x.What != api.Drop || x.Value != nil {
			s += " " + say(x.Value)
		}
		out = append(out, s)
	}
	return strings.Join(out, "; ")
}

// answers holds what a call answered against a text, or, if the text is empty, against an error.
func answers(t *testing.T, what string, v any, e api.Errno, want string, why api.Errno) {
	t.Helper()
	switch {
	case e != why:
		t.Errorf("%s: error %d, want %d", what, e, why)
	case e != api.OK && v != nil:
		t.Errorf("%s: %v beside error %d", what, v, e)
	case e == api.OK && !value.Same(v, val(want)):
		t.Errorf("%s: %s, want %s", what, say(v), want)
	}
}

// badWay is a way that can't be.
type badWay struct {
	way []api.Step
	why api.Errno
}

// badWays are ways that can't be, by each rule, and by those that come first where several could.
func badWays() []badWay {
	long := append(times(api.MaxDepth, name("a")), name("A"))
	return []badWay{
		{times(api.MaxDepth+1, index(0)), api.ErrLong}, {times(api.MaxDepth+1, name("a")), api.ErrLong}, {long, api.ErrLong}, {times(1000, name("")), api.ErrLong},
		{steps(name("")), api.ErrName}, {steps(name("A")), api.ErrName}, {steps(name("0a")), api.ErrName}, {steps(name("_")), api.ErrName}, {steps(name("a.b")), api.ErrName}, {steps(name("a[0]")), api.ErrName}, {steps(name(strings.Repeat("a", api.MaxName+1))), api.ErrName},
		{steps(api.Step{}), api.ErrName}, {steps(api.Step{Name: "A", Index: 1}), api.ErrName}, {steps(api.Step{Index: 1}), api.ErrName},
		{steps(api.Step{Name: "a", Index: 1}), api.ErrArg}, {steps(api.Step{Name: "a", Index: -1}), api.ErrArg},
		{steps(api.Step{Name: "a", At: true}), api.ErrName}, {steps(api.Step{Name: "a", At: true, Index: -1}), api.ErrName}, {steps(api.Step{Name: "A", At: true, Index: api.MaxItems}), api.ErrName},
		{steps(index(-1)), api.ErrArg}, {steps(index(api.MaxItems)), api.ErrArg}, {steps(index(1 << 40)), api.ErrArg}, {steps(index(-1 << 63)), api.ErrArg},
		{steps(name("a"), index(0), name("A"), index(-1)), api.ErrName}, {steps(name("a"), index(-1), name("A")), api.ErrArg}, {append(times(api.MaxDepth-1, index(0)), name("A")), api.ErrName}, {append(times(api.MaxDepth-1, name("a")), index(api.MaxItems)), api.ErrArg},
	}
}
