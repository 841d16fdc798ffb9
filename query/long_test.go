package query_test

import (
	"slices"
	"strings"
	"testing"

	"tenon/api"
	"tenon/sample"
)

// repeated is a list of that many times the same expression.
func repeated(n int, e api.Expr) []api.Expr {
	l := make([]api.Expr, n)
	for i := range l {
		l[i] = e
	}
	return l
}

// trues is that many times true, with and between: 2n - 1 expressions, all of which are asked.
func trues(n int) api.Expr {
	e := sample.Fixed(true)
	for range n - 1 {
		e = sample.Expr("and", e, sample.Fixed(true))
	}
	return e
}

// steps is a list that asks 3 + 4096 * 255 expressions of a list of 4096 values, and the others behind that.
func steps(others ...api.Expr) api.Expr {
	return placed(sample.Expr("list", append([]api.Expr{sample.Call("all", sample.Expr("self"), trues(128))}, others...)...))
}

// P17.3: walks of MaxSteps and of one more, whatever comes last.
func TestSteps(t *testing.T) {
	const left = api.MaxSteps - 3 - 4096*255
	v := sample.Items(api.MaxItems)
	one := sample.Fixed(int64(1))
	full := repeated(left, one)
	mustTell(t, steps(full...), v, append(api.List{true}, slices.Repeat(api.List{int64(1)}, left)...))
	e := steps(append(full, one)...)
	mustNotTell(t, e, v, e.Parts[left+1].At, api.ErrLong)
	e = steps(append(full, one, one)...)
	mustNotTell(t, e, v, e.Parts[left+1].At, api.ErrLong)

	ends := []api.Expr{sample.Expr("neg", one), sample.Expr("not", sample.Fixed(true)), sample.Expr("+", one, one), sample.Expr("or", sample.Fixed(true), one), sample.Call("len", sample.Expr("self")), sample.Call("any", sample.Expr("self"), sample.Fixed(true)), sample.Expr("list", one, one), sample.Expr("self"), sample.Call("map", sample.Expr("list", one, one, one), sample.Expr("neg", one)), sample.ExprOf("is", "int", one)}
	asked := []int{2, 2, 3, 2, 2, 3, 3, 1, 11, 2}
	for i, end := range ends {
		e := steps(append(repeated(left-asked[i], one), end)...)
		if got := evalModel(e, v); got.why != api.OK || got.asked != api.MaxSteps {
			t.Fatal(i, got.why, got.asked)
		}
		mustTell(t, e, v, evalModel(e, v).answer)
		for _, more := range []int{1, asked[i], asked[i] + 1} {
			e := steps(append(repeated(left-asked[i]+more, one), end)...)
			got := evalModel(e, v)
			if got.why != api.ErrLong {
				t.Fatal(i, got.why)
			}
			mustNotTell(t, e, v, got.at, api.ErrLong)
		}
	}
	// An answer that can't be told at the last step is told by its own error, and so is one on the way.
	wrong := sample.Expr("neg", sample.Fixed(nil))
	e = steps(append(repeated(left-2, one), wrong)...)
	mustNotTell(t, e, v, e.Parts[left-1].At, api.ErrRun)
	e = steps(append(repeated(left-1, one), wrong)...)
	mustNotTell(t, e, v, e.Parts[left].Parts[0].At, api.ErrLong)
	e = steps(append(repeated(left, one), wrong)...)
	mustNotTell(t, e, v, e.Parts[left+1].At, api.ErrLong)
}

// toldByModel is what the plain model tells of an expression.
type toldByModel struct {
	answer any
	asked  int
	at     int
	why    api.Errno
}

func evalModel(e api.Expr, v any) toldByModel {
	m := &model{seen: map[string]int{}}
	answer := m.eval(e, v)
	return toldByModel{answer, m.asked, m.at, m.why}
}

// P17.3: what isn't asked is not counted, and each walk begins anew.
func TestStepsNotAsked(t *testing.T) {
	v := sample.Items(api.MaxItems)
	lazy := sample.Expr("or", sample.Fixed(true), trues(1000))
	e := placed(sample.Call("all", sample.Expr("self"), sample.Expr("and", lazy, lazy))) // 7 for each of them
	for range 50 {
		mustTell(t, e, v, true)
	}
	mustTell(t, placed(sample.Call("any", sample.Expr("self"), sample.Expr("not", sample.Expr("and", sample.Fixed(false), trues(8000))))), v, true)
	e = placed(sample.Call("all", sample.Expr("self"), trues(129)))
	mustNotTell(t, e, v, evalModel(e, v).at, api.ErrLong)
	e = placed(sample.Expr("or", sample.Fixed(true), e))
	mustTell(t, e, v, true)
	// Lists within one another, each of whose values is asked for each of the others.
	sixteen := strings.Repeat("[1,1,1,1,1,1,1,1,1,1,1,1,1,1,1,1],", 16)
	within := parsed(t, "map(self, map(["+sixteen+"1], map(["+sixteen+"1], 1)))")
	got := evalModel(within, v)
	if got.why != api.ErrLong {
		t.Fatal(got.why)
	}
	mustNotTell(t, within, v, got.at, api.ErrLong)
}

// P17.3: answers that can't be, their own and on the way.
func TestLongAnswers(t *testing.T) {
	text := strings.Repeat("x", api.MaxText-1)
	for _, x := range []struct {
		s    string
		v    any
		want any
	}{
		{`self + "y"`, text, text + "y"}, {"self + #00", []byte(text), []byte(text + "\x00")}, {"self + [nil]", sample.Items(api.MaxItems - 1), sample.Items(api.MaxItems)}, {"[nil] + self", sample.Items(api.MaxItems - 1), sample.Items(api.MaxItems)}, {"self + []", sample.Items(api.MaxItems), sample.Items(api.MaxItems)},
		{"[self]", sample.Within(api.MaxDepth-1, nil), sample.Within(api.MaxDepth, nil)}, {"[[[self]]]", sample.Within(api.MaxDepth-3, nil), sample.Within(api.MaxDepth, nil)}, {"map([1], self)", nil, list(1)}, {"map(self, [[self]])", sample.Within(api.MaxDepth-2, true), sample.Within(api.MaxDepth, true)}, {"self + self", sample.Within(api.MaxDepth, nil), append(sample.Within(api.MaxDepth, nil).(api.List), sample.Within(api.MaxDepth, nil).(api.List)...)},
		{"[self]", sample.Numbered(api.MaxNodes-2, nil), api.List{sample.Numbered(api.MaxNodes-2, nil)}}, {"self + [nil]", sample.Numbered(api.MaxNodes-2, nil), append(sample.Numbered(api.MaxNodes-2, nil), nil)}, {"len(self + [nil])", sample.Numbered(api.MaxNodes-2, nil), int64(len(sample.Numbered(api.MaxNodes-2, nil)) + 1)},
	} {
		mustAnswer(t, x.s, x.v, x.want)
	}
	for _, x := range []struct {
		s  string
		v  any
		at int
	}{
		{`self + "yy"`, text, 5}, {`"yy" + self`, text, 5}, {"self + self", text, 5}, {"len(self + self)", text, 9}, {"self + self = self", text, 5}, {`self + "y" + "y"`, text, 11}, {"self + self + nil", text, 5}, {"self + #0000", []byte(text), 5},
		{"self + [nil, nil]", sample.Items(api.MaxItems - 1), 5}, {"len(self + self) = 1 or true", sample.Items(api.MaxItems), 9}, {"first([1] + self)", sample.Items(api.MaxItems), 10}, {"[] + [1] + self", sample.Items(api.MaxItems), 9},
		{" [self]", sample.Within(api.MaxDepth, nil), 1}, {"[[self]]", sample.Within(api.MaxDepth, nil), 1}, {"[[self]]", sample.Within(api.MaxDepth-1, nil), 0}, {"first([self])", sample.Within(api.MaxDepth, nil), 6}, {"[1, 2, [3, [self]]]", sample.Within(api.MaxDepth-2, nil), 0}, {"kind([self]) is list", sample.WithinFields(api.MaxDepth, nil), 5},
		{" map(self, [[self]])", sample.Within(api.MaxDepth-1, true), 1}, {" len(map(self, [[self]]))", sample.Within(api.MaxDepth-1, true), 5}, {"map([self], [self])", sample.Within(api.MaxDepth-1, true), 0}, {"map(self, [[[self]]])", sample.Within(api.MaxDepth, true), 11},
		{"[self, nil]", sample.Numbered(api.MaxNodes-2, nil), 0}, {" [self]", sample.Numbered(api.MaxNodes-1, nil), 1}, {"self + [nil]", sample.Numbered(api.MaxNodes-1, nil), 5}, {"[self, self]", sample.Numbered(api.MaxNodes/2, nil), 0}, {"len([self, self]) > 0", sample.Numbered(api.MaxNodes/2, nil), 4}, {"self + self", sample.Numbered(api.MaxNodes-1, nil), 5}, {"map(self, [1, 2, 3, 4])", sample.Items(api.MaxItems), 0}, {"any([map(self, [1, 2, 3])], true)", sample.Items(api.MaxItems), 5}, {"pick(map(self, [nil, nil, nil]), false)", sample.Items(api.MaxItems), 5},
		{"[[self], 1 / 0]", sample.Within(api.MaxDepth, nil), 1},
	} {
		mustNotTell(t, parsed(t, x.s), x.v, x.at, api.ErrLong)
	}
	mustNotRun(t, "[self, 1 / 0]", sample.Within(api.MaxDepth, nil), 9)
	mustNotRun(t, "self + (self + nil)", text, 13)
	mustAnswer(t, "len(map(self, [1, 2])) + 0", sample.Items(api.MaxItems), int64(api.MaxItems))
	mustAnswer(t, `true or len(self + self) = 0`, text, true)
	mustAnswer(t, `any([true, self], self = true or [self] = 1)`, sample.Within(api.MaxDepth-1, nil), true)
}

// P17.3: lists of as many parts as a list can have, and of more.
func TestLongLists(t *testing.T) {
	e := sample.Expr("list", repeated(api.MaxItems, sample.Fixed(nil))...)
	mustTell(t, e, nil, sample.Items(api.MaxItems))
	for _, n := range []int{api.MaxItems + 1, api.MaxNodes - 2} {
		e := placed(sample.Expr("list", repeated(n, sample.Fixed(nil))...))
		mustNotTell(t, e, nil, e.At, api.ErrLong)
		e = placed(sample.Call("len", sample.Expr("list", repeated(n, sample.Fixed(nil))...)))
		mustNotTell(t, e, nil, e.Parts[0].At, api.ErrLong)
	}
	// A chain as long as can be: it answers, however deep its parts lie in one another.
	left, right := sample.Fixed(int64(1)), sample.Fixed(int64(1))
	for range api.MaxNodes/2 - 1 {
		left, right = sample.Expr("+", left, sample.Fixed(int64(1))), sample.Expr("+", sample.Fixed(int64(1)), right)
	}
	mustTell(t, left, nil, int64(api.MaxNodes/2))
	mustTell(t, right, nil, int64(api.MaxNodes/2))
	mustTell(t, sample.ExprsWithin(api.MaxNodes-2, sample.Fixed(int64(1)), "neg"), nil, int64(1))
	mustTell(t, sample.ExprsWithin(api.MaxNodes-1, sample.Fixed(true), "not"), nil, false)
}

// P17.3: a walk that makes much on its way ends.
func TestMuchOnTheWay(t *testing.T) {
	v := sample.Numbered(api.MaxNodes/2, nil)
	e := sample.Expr("list", repeated(1000, sample.Call("len", sample.Expr("list", sample.Expr("self"))))...)
	mustTell(t, e, v, slices.Repeat(api.List{int64(1)}, 1000))
	text := strings.Repeat("x", api.MaxText/2)
	e = sample.Expr("list", repeated(4000, sample.Call("len", sample.Expr("+", sample.Expr("self"), sample.Expr("self"))))...)
	mustTell(t, e, text, slices.Repeat(api.List{int64(api.MaxText)}, 4000))
}
