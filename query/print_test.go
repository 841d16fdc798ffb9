package query_test

import (
	"fmt"
	"math"
	"math/rand"
	"strings"
	"testing"

	"tenon/api"
	"tenon/query"
	"tenon/sample"
	"tenon/text"
)

// P17.2: the text of each sort.
func TestPrintRows(t *testing.T) {
	a, b, c := sample.Asked("a"), sample.Asked("b"), sample.Asked("c")
	for _, op := range signs() {
		mustPrint(t, sample.Expr(op, a, b), "a "+op+" b")
	}
	for _, word := range kindWords() {
		mustPrint(t, sample.ExprOf("is", word, a), "a is "+word)
	}
	mustPrint(t, sample.Expr("not", a), "not a")
	mustPrint(t, sample.Expr("neg", a), "-a")
	mustPrint(t, sample.Expr("neg", sample.Expr("neg", a)), "--a")
	mustPrint(t, sample.Expr("at", a, b), "a[b]")
	mustPrint(t, sample.Expr("at", a, sample.Expr("or", b, c)), "a[b or c]")
	mustPrint(t, sample.Expr("self"), "self")
	mustPrint(t, sample.Expr("list"), "[]")
	mustPrint(t, sample.Expr("list", a), "[a]")
	mustPrint(t, sample.Expr("list", a, sample.Expr("or", b, c), sample.Expr("list")), "[a, b or c, []]")
	for _, f := range functions1() {
		mustPrint(t, sample.Call(f, sample.Expr("or", a, b)), f+"(a or b)")
	}
	for _, f := range functions2() {
		mustPrint(t, sample.Call(f, a, sample.Expr("not", b)), f+"(a, not b)")
	}
	for _, name := range append(sample.GoodNames(), otherWords()...) {
		mustPrint(t, sample.Asked(name), name)
		mustPrint(t, sample.ExprOf("dot", name, a), "a."+name)
	}
	for _, word := range reserved() {
		mustPrint(t, sample.ExprOf("dot", word, a), "a."+word)
	}
	for _, v := range constants() {
		s, _ := text.Print(v)
		mustPrint(t, sample.Fixed(v), s)
	}
}

// constants are values that may stand in an expression, each limit among them.
func constants() []any {
	return []any{nil, true, false, int64(0), int64(1), int64(math.MaxInt64), 0.0, 1.0, 1.5, 0.1, math.MaxFloat64, math.SmallestNonzeroFloat64, "", "a", "\x00\"\\\n\xff", strings.Repeat("x", api.MaxText), []byte{}, []byte{0, 255}, make([]byte, api.MaxText), api.Ref(0), api.Ref(math.MaxUint64)}
}

// modelPrint is the text of an expression that can be, by the chapter's words.
func modelPrint(e api.Expr) string {
	part := func(i, least int) string {
		p := e.Parts[i]
		s := modelPrint(p)
		level := levelOf(p.Op)
		switch p.Op {
		case "dot", "at":
			level = 8
		case "value", "self", "field", "list", "call":
			level = 9
		}
		isNumber := p.Op == "value" && (p.Value.Kind == api.KInt || p.Value.Kind == api.KFloat)
		if level < least || e.Op == "dot" && isNumber {
			return "(" + s + ")"
		}
		return s
	}
	var parts []string
	for i := range e.Parts {
		parts = append(parts, part(i, 1))
	}
	switch e.Op {
	case "value":
		v, _ := text.Print(valueOf(e))
		return v
	case "self":
		return "self"
	case "field":
		return e.Name
	case "list":
		return "[" + strings.Join(parts, ", ") + "]"
	case "call":
		return e.Name + "(" + strings.Join(parts, ", ") + ")"
	case "not":
		return "not " + part(0, 3)
	case "neg":
		return "-" + part(0, 7)
	case "dot":
		return part(0, 8) + "." + e.Name
	case "at":
		return part(0, 8) + "[" + parts[1] + "]"
	case "is":
		return part(0, 5) + " is " + e.Name
	}
	least := map[int][2]int{1: {1, 2}, 2: {2, 3}, 4: {5, 5}, 5: {5, 6}, 6: {6, 7}}[levelOf(e.Op)]
	return part(0, least[0]) + " " + e.Op + " " + part(1, least[1])
}

func valueOf(e api.Expr) any {
	v, _, _ := text.Parse(func() string { s, _ := query.Print(e); return s }())
	return v
}

// oneOfEach is an expression of each sort.
func oneOfEach() []api.Expr {
	a, b := sample.Asked("a"), sample.Asked("b")
	l := []api.Expr{a, sample.Expr("self"), sample.Expr("list"), sample.Expr("list", a), sample.Call("len", a), sample.Call("any", a, b), sample.ExprOf("dot", "b", a), sample.Expr("at", a, b), sample.Expr("neg", a), sample.Expr("not", a), sample.ExprOf("is", "int", a)}
	for _, op := range signs() {
		l = append(l, sample.Expr(op, a, b))
	}
	for _, v := range []any{nil, true, int64(0), 1.5, "x", []byte{1}, api.Ref(1)} {
		l = append(l, sample.Fixed(v))
	}
	return l
}

// P17.2: brackets on each side of each Op around each sort.
func TestPrintBrackets(t *testing.T) {
	z := sample.Asked("z")
	for _, part := range oneOfEach() {
		whole := []api.Expr{sample.Expr("neg", part), sample.Expr("not", part), sample.ExprOf("dot", "z", part), sample.Expr("at", part, z), sample.Expr("at", z, part), sample.ExprOf("is", "int", part), sample.Expr("list", part, z, part), sample.Call("len", part), sample.Call("any", part, part)}
		for _, op := range signs() {
			whole = append(whole, sample.Expr(op, part, z), sample.Expr(op, z, part), sample.Expr(op, part, part))
		}
		for _, e := range whole {
			mustPrint(t, e, modelPrint(e))
			if back := parsed(t, modelPrint(e)); told(back, false) != told(e, false) {
				t.Errorf("%s: %s, was %s", modelPrint(e), told(back, false), told(e, false))
			}
		}
	}
	a, b, c, one := sample.Asked("a"), sample.Asked("b"), sample.Asked("c"), sample.Fixed(int64(1))
	mustPrint(t, sample.Expr("-", a, sample.Expr("-", b, c)), "a - (b - c)")
	mustPrint(t, sample.Expr("-", sample.Expr("-", a, b), c), "a - b - c")
	mustPrint(t, sample.Expr("or", a, sample.Expr("or", b, c)), "a or (b or c)")
	mustPrint(t, sample.Expr("and", sample.Expr("or", a, b), sample.Expr("and", b, c)), "(a or b) and (b and c)")
	mustPrint(t, sample.Expr("=", sample.Expr("=", a, b), sample.Expr("not", c)), "(a = b) = (not c)")
	mustPrint(t, sample.Expr("not", sample.Expr("=", a, b)), "not a = b")
	mustPrint(t, sample.Expr("neg", sample.Expr("*", a, b)), "-(a * b)")
	mustPrint(t, sample.Expr("*", sample.Expr("neg", a), sample.Expr("neg", b)), "-a * -b")
	mustPrint(t, sample.ExprOf("dot", "a", one), "(1).a")
	mustPrint(t, sample.ExprOf("dot", "a", sample.Fixed(1.0)), "(0x1p+00).a")
	mustPrint(t, sample.ExprOf("dot", "a", sample.Expr("neg", one)), "(-1).a")
	mustPrint(t, sample.Expr("at", one, one), "1[1]")
	mustPrint(t, sample.Expr("neg", sample.ExprOf("dot", "a", one)), "-(1).a")
	mustPrint(t, sample.ExprOf("dot", "b", sample.Expr("at", sample.ExprOf("dot", "a", one), sample.Expr("or", a, b))), "(1).a[a or b].b")
}

// P17.2: expressions that can't be: told by all that are handed one.
func TestWrongExprs(t *testing.T) {
	for _, x := range sample.WrongExprs() {
		if s, why := query.Print(x.E); s != "" || why != api.ErrArg {
			t.Errorf("%s: Print: %q, %d", x.Name, short(s), why)
		}
		for _, v := range []any{nil, dict("a", int64(1)), api.List{}, api.List{true, false}} {
			if got, at, why := query.Eval(x.E, v); got != nil || at != 0 || why != api.ErrArg {
				t.Errorf("%s: Eval: %v, %d, %d", x.Name, got, at, why)
			}
			if is, at, why := query.Match(x.E, v); is || at != 0 || why != api.ErrArg {
				t.Errorf("%s: Match: %v, %d, %d", x.Name, is, at, why)
			}
		}
		if l := query.Names(x.E); len(l) > 0 {
			t.Errorf("%s: Names: %q", x.Name, l)
		}
	}
}

// P17.2, P17.3: the errors of a value that can't be come first.
func TestWrongBoth(t *testing.T) {
	for _, x := range sample.WrongExprs()[:40] {
		for _, v := range sample.Wrongs() {
			if got, at, why := query.Eval(x.E, v.V); got != nil || at != 0 || why != v.Why {
				t.Errorf("%s, %s: Eval: %v, %d, %d", x.Name, v.Name, got, at, why)
			}
			if is, at, why := query.Match(x.E, v.V); is || at != 0 || why != v.Why {
				t.Errorf("%s, %s: Match: %v, %d, %d", x.Name, v.Name, is, at, why)
			}
		}
	}
}

// P17.2: MaxNodes expressions in all.
func TestPrintMany(t *testing.T) {
	many := sample.ManyExprs(api.MaxNodes)
	s, why := query.Print(many)
	if want := "[[" + strings.Repeat("a, ", 3999) + "a], [" + strings.Repeat("nil, ", api.MaxNodes-4004) + "nil]]"; s != want || why != api.OK {
		t.Error(short(s), why)
	}
	for _, ops := range [][]string{{"not"}, {"neg"}, {"dot"}, {"not", "neg", "dot"}} {
		e := sample.ExprsWithin(api.MaxNodes-1, sample.Asked("a"), ops...)
		if s, why := query.Print(e); len(s) < api.MaxNodes || why != api.OK {
			t.Error(ops, short(s), why)
		}
		mustNotPrint(t, sample.ExprsWithin(api.MaxNodes, sample.Asked("a"), ops...))
	}
	left, right := sample.Asked("a"), sample.Asked("a")
	for range api.MaxNodes/2 - 1 {
		left, right = sample.Expr("-", left, sample.Asked("a")), sample.Expr("-", sample.Asked("a"), right)
	}
	mustPrint(t, left, "a"+strings.Repeat(" - a", api.MaxNodes/2-1))
	mustPrint(t, right, strings.Repeat("a - (", api.MaxNodes/2-2)+"a - a"+strings.Repeat(")", api.MaxNodes/2-2))
	mustNotPrint(t, sample.Expr("-", left, sample.Asked("a")))
	mustPrint(t, sample.Expr("neg", right), "-("+strings.Repeat("a - (", api.MaxNodes/2-2)+"a - a"+strings.Repeat(")", api.MaxNodes/2-1))
	mustNotPrint(t, sample.Expr("neg", sample.Expr("neg", right)))
}

func mustNotPrint(t *testing.T, e api.Expr) {
	t.Helper()
	if s, why := query.Print(e); s != "" || why != api.ErrArg {
		t.Errorf("Print(%s): %q, %d", short(told(e, false)), short(s), why)
	}
}

// littered is an expression whose parts that play no part are filled.
func littered(e api.Expr) api.Expr {
	e.At -= 77
	switch e.Op {
	case "dot", "field", "is", "call":
	default:
		e.Name = "A litter"
	}
	if e.Op == "value" {
		e.Value = sample.ClutteredTerm(e.Value)
	} else {
		e.Value = api.Term{Kind: 99, Text: "litter", List: []api.Term{{}}}
	}
	parts := make([]api.Expr, 0, len(e.Parts)+2)
	for _, p := range e.Parts {
		parts = append(parts, littered(p))
	}
	e.Parts = append(parts, api.Expr{Op: "litter"}, api.Expr{Op: "litter"})[:len(parts)]
	return e
}

// P17.2: what the table does not name plays no part.
func TestLitter(t *testing.T) {
	r := rand.New(rand.NewSource(172))
	for range 3000 {
		e := placed(sample.AnyExpr(r.Intn, 5))
		with := littered(e)
		s, why := query.Print(e)
		mustPrint(t, with, s)
		if why != api.OK {
			t.Fatal(told(e, false), why)
		}
		if a, b := query.Names(e), query.Names(with); fmt.Sprint(a) != fmt.Sprint(b) {
			t.Error(s, a, b)
		}
		v := dict("a", sample.Anyhow(r.Intn, 3), "b", list(1, 2))
		got, at, why := query.Eval(e, v)
		if why == api.OK {
			mustTell(t, with, v, got)
		} else {
			mustNotTell(t, with, v, at-77, why)
		}
	}
}

// P17.2, P17.5: of expressions by chance.
func TestPrintModel(t *testing.T) {
	r := rand.New(rand.NewSource(173))
	for range 20000 {
		e := sample.AnyExpr(r.Intn, 2+r.Intn(5))
		mustPrint(t, e, modelPrint(e))
		if t.Failed() {
			return
		}
	}
}
