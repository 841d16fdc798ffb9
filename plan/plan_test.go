package plan_test

import (
	"math"
	"strings"
	"testing"

	"tenon/api"
	"tenon/sample"
	"tenon/text"
)

// numbers is a table of records whose field a is 1 to 9 each, as their identities are; its index is of that.
func numbers() []any {
	var l []any
	for i := range int64(9) {
		l = append(l, i+1)
	}
	return l
}

// P18.2: = < <= > >=, with the way at the left and at the right.
func TestSigns(t *testing.T) {
	x := filled(t, of("a"), numbers()...)
	for _, c := range []struct {
		s    string
		asks int
	}{
		{"a = 3", 1}, {"a < 3", 2}, {"a <= 3", 3}, {"a > 3", 6}, {"a >= 3", 7},
		{"3 = a", 1}, {"3 > a", 2}, {"3 >= a", 3}, {"3 < a", 6}, {"3 <= a", 7},
		{"a = 0", 0}, {"a < 1", 0}, {"a <= 0", 0}, {"a > 9", 0}, {"a >= 10", 0},
		{"a = 0x1p+01", 1}, {"a = 0x1.4p+01", 0}, {"a < 0x1.4p+01", 2}, {"0x1.4p+01 < a", 7}, // 2.0, 2.5
		{`a = "x"`, 0}, {`a < "x"`, 0}, {"a = nil", 0}, {"a >= nil", 0}, {"a = [1]", 0}, {"a < [1]", 0},
	} {
		at := strings.IndexAny(c.s, "=<>")
		mustGo(t, x, c.s, 0, at, c.asks)
		mustGo(t, x, "   "+c.s+" and true", 0, at+3, c.asks)
	}
	for _, s := range []string{"a <= 9", "a >= 1", "a > 0", "a < 10", "0 < a", "a >= -1", "a < 0x1.3p+03"} {
		mustAskAll(t, x, s)
	}
}

// P18.2: other signs and words, of the same sides, go by none.
func TestOtherSigns(t *testing.T) {
	x := filled(t, of("a"), numbers()...)
	for _, s := range []string{"a != 3", "3 != a", "a in [3]", "a is int", "has(self, \"a\")", "a + 3", "a", "true", "[a = 3]", "any([1], a = 3)", "kind(a) = \"text\""} {
		mustAskAll(t, x, s)
		mustAskAll(t, x, s+" and true")
	}
	mustGo(t, x, "a != 3 and a in [3] and a = 3", 0, 26, 1)
}

// P18.2: what is needed: within and, and in that, and nowhere else.
func TestNeeded(t *testing.T) {
	x := filled(t, of("a"), numbers()...)
	for _, s := range []string{"a = 3", "a = 3 and b = 4", "b = 4 and a = 3", "b and b and a = 3 and b", "b and (b and (b and a = 3))", "((b and a = 3) and b) and b", "(a = 3 and b) and (b or b)", "true and a = 3", "(a = 3 or true) and a = 3"} {
		at := strings.LastIndex(s, "a = 3") + 2
		mustGo(t, x, s, 0, at, 1)
	}
	for _, s := range []string{
		"a = 3 or a = 4", "(a = 3 and b) or b", "b or (a = 3 and b)", "not (a = 3)", "not (a = 3 and b)", "not not (a = 3)", "[a = 3]", "[a = 3] = [true]",
		"(a = 3) = true", "true = (a = 3)", "(a = 3) != false", "(a = 3) in [true]", "(a = 3) is bool", "all([1], a = 3)", "any(self.c, a = 3)", "first([a = 3])", "pick([1], a = 3) = [1]",
		"(a = 3 and a = 3) = true", "(a = 3 or b) and (b or a = 3)", "b and not (a = 3)", "b and [a = 3]", "b and any([1], a = 3)", "b and (b or a = 3)", "b and (b and (b or (a = 3 and b)))",
	} {
		mustAskAll(t, x, s)
	}
}

// P18.2: which sides are ways: each has a table whose index is of the way that it would be.
func TestWays(t *testing.T) {
	for _, c := range []struct{ side, way string }{
		{"a", "a"}, {"a.b", "a.b"}, {"a.b.c", "a.b.c"}, {"a[0]", "a[0]"}, {"a[7]", "a[7]"}, {"a[0][1]", "a[0][1]"}, {"a.b[0].c", "a.b[0].c"}, {"(a).b", "a.b"}, {"(a.b)[0]", "a.b[0]"},
		{`a["b"]`, "a.b"}, {`a["b"].c["d"][3]`, "a.b.c.d[3]"}, {`a["or"]`, "a.or"}, {"a.or", "a.or"}, {"a.self.nil", "a.self.nil"}, {"a[4095]", "a[4095]"}, {"a[(1)]", "a[1]"}, {"int", "int"}, {"len", "len"},
		{"a" + strings.Repeat("[0]", 63), "a" + strings.Repeat("[0]", 63)}, {"a" + strings.Repeat(".b", 63), "a" + strings.Repeat(".b", 63)}, {`a["` + strings.Repeat("n", 32) + `"]`, "a." + strings.Repeat("n", 32)},
	} {
		x := fresh(t, of("z", c.way)...)
		mustPut(t, x, 1, bare())
		for _, sign := range []string{"=", "<", ">=", ">", "<="} {
			mustGo(t, x, c.side+" "+sign+" 5", 1, len(c.side)+1, 0)
			mustGo(t, x, "5 "+sign+" "+c.side, 1, 2, 0)
		}
		mustAskAll(t, x, c.side+" != 5")
	}
}

// P18.2: which sides are no ways, or another one: their tables have indexes of all that they may be taken for.
func TestNoWays(t *testing.T) {
	x := fresh(t, of("a", "b", "a.b", "a[0]", "a.a", "a[1]", "b.a", "self", "a[4095]")...)
	mustPut(t, x, 1, bare())
	for _, side := range []string{
		"self", "self.a", "self[0]", `self["a"]`, "self.a.b", "len(a)", "first(a)", "first(a)[0]", "last(a).b", "[a][0]", "[a, b]", "(a and b).b", "-a", "(-a)[0]", "(not a)", "(a is int)", "(a + 0)", "(a = b)[0]", "1", `"a"`, `"a"[0]`, `"a".b`,
		"a[-1]", "a[4096]", "a[9223372036854775807]", "a[0x0p+00]", "a[0x1p+00]", `a["A"]`, `a[""]`, `a["a b"]`, `a["` + strings.Repeat("n", 33) + `"]`, "a[b]", "a[1 - 1]", "a[[0]]", "a[nil]", "a[true]", "a[self]", "a[@1]", "a[self.b]", "a[first([0])]", "a[-0]",
		"c", "a.c", "a[2]", "a.b.a", "a.b[0]", "b.b", "b[0]", "a[4094]", "b.a.a", "c.a", "c[0]",
	} {
		mustAskAll(t, x, side+" = 5")
		mustAskAll(t, x, "5 <= "+side)
		mustAskAll(t, x, side+" < 5 and true")
	}
	long := sample.Asked("a")
	for range api.MaxDepth {
		long = sample.Expr("at", long, sample.Fixed(int64(0)))
	}
	mustPlan(t, x, "", sample.Expr("=", long, sample.Fixed(nil)), api.Plan{Index: -1, Asks: 1})
}

// P18.2: which sides are fixed, by what they come to.
func TestFixed(t *testing.T) {
	values := []any{nil, true, false, int64(3), int64(-3), int64(-math.MaxInt64), int64(math.MaxInt64), 1.5, -1.5, sample.MinusZero(), 0.0, -math.MaxFloat64, "", "x", "3", []byte{1}, []byte{}, api.Ref(0), api.Ref(7),
		api.List{}, api.List{int64(1)}, api.List{int64(-1), 1.5, api.List{"x", nil}}, api.List{api.List{api.List{}}}, api.List{-1.5, api.Ref(2)}}
	x := filled(t, of("a"), values...)
	for i, side := range []string{"nil", "true", "false", "3", "-3", "-9223372036854775807", "9223372036854775807", real(1.5), real(-1.5), "-" + real(0), real(0), real(-math.MaxFloat64), `""`, `"x"`, `"3"`, "#01", "#", "@0", "@7",
		"[]", "[1]", "[-1, " + real(1.5) + `, ["x", nil]]`, "[[[]]]", "[" + real(-1.5) + ", @2]"} {
		mustGo(t, x, "a = "+side, 0, 2, 1)
		mustMean(t, x, side+" = a", api.Ref(i+1))
		mustMean(t, x, "a = "+side, api.Ref(i+1))
	}
	mustMean(t, x, "a = [-1]")
	mustGo(t, x, "a = -(3)", 0, 2, 1)
	mustGo(t, x, "a = -0", 0, 2, 2) // 0.0 and -0.0
	mustGo(t, x, "a = (([((1))]))", 0, 2, 1)
}

// real is a float's text.
func real(f float64) string { return text.Float(f) }

// P18.2: which sides are not fixed, however they always come to the same.
func TestNotFixed(t *testing.T) {
	x := filled(t, of("a"), numbers()...)
	for _, side := range []string{
		"b", "self", "a", "a.b", "--3", "-(-3)", `-"x"`, "-nil", "-true", "-[3]", "-[]", "-b", "-#01", "-@3", "1 + 2", "(1 < 2)", "(not true)", "len([1])", "[b]", "[1, b]", "[self]", "[[1, [b]]]", "[1 + 2]", "[--3]", `[-"x"]`, "[-nil]", "[not true]", "[3][0]", "[3].a", "(3 is int)", "(true and true)", "first([3])", "[first([3])]",
	} {
		mustAskAll(t, x, "a = "+side)
		mustAskAll(t, x, side+" = a")
		mustAskAll(t, x, side+" < a")
	}
	mustAskAll(t, x, "3 = 3")
	mustAskAll(t, x, "b = 3")
}

// P18.2: a fixed side that comes to what can't be means no key.
func TestFixedTooMuch(t *testing.T) {
	x := filled(t, append(of("a"), api.IndexOf{Way: "a", Some: true}), numbers()...)
	mustPut(t, x, 10, bare())
	deep := sample.Fixed(nil)
	for range api.MaxDepth {
		deep = sample.Expr("list", deep)
	}
	long := sample.Expr("list", make([]api.Expr, api.MaxItems+1)...)
	for i := range long.Parts {
		long.Parts[i] = sample.Fixed(nil)
	}
	for _, side := range []api.Expr{deep, long} {
		for _, sign := range []string{"=", "<", ">=", ">", "<="} {
			mustPlan(t, x, "", sample.Expr(sign, sample.Asked("a"), side), api.Plan{})
			mustPlan(t, x, "", sample.Expr(sign, side, sample.Asked("a")), api.Plan{})
			mustTell(t, x, "", sample.Expr(sign, side, sample.Asked("a")))
		}
	}
	mustPlan(t, x, "", sample.Expr("=", sample.Asked("a"), deep.Parts[0]), api.Plan{})
	y := fresh(t, append(of("b"), api.IndexOf{Way: "a", Some: true})...)
	mustPut(t, y, 1, bare())
	mustPlan(t, y, "", sample.Expr("=", sample.Asked("a"), deep), api.Plan{Index: 1})
}

// P18.2: an index that has a Class is for queries of that class alone; one that has none, for all.
func TestClasses(t *testing.T) {
	x := fresh(t, api.IndexOf{Class: "p", Way: "a"}, api.IndexOf{Class: "q", Way: "b"}, api.IndexOf{Way: "c"})
	for i := range int64(4) {
		for j, class := range []string{"p", "q", "r"} {
			mustPut(t, x, api.Ref(10*i+int64(j)+1), sample.Record(class, 1, sample.Field("a", i), sample.Field("b", i), sample.Field("c", i)))
		}
	}
	for _, c := range []struct {
		class, s string
		want     api.Plan
	}{
		{"", "a = 1", api.Plan{Index: -1, Asks: 12}}, {"p", "a = 1", api.Plan{Index: 0, At: 2, Asks: 1}}, {"q", "a = 1", api.Plan{Index: -1, Asks: 12}}, {"r", "a = 1", api.Plan{Index: -1, Asks: 12}}, {"none", "a = 1", api.Plan{Index: -1, Asks: 12}},
		{"", "b = 1", api.Plan{Index: -1, Asks: 12}}, {"p", "b = 1", api.Plan{Index: -1, Asks: 12}}, {"q", "b = 1", api.Plan{Index: 1, At: 2, Asks: 1}},
		{"", "c = 1", api.Plan{Index: 2, At: 2, Asks: 3}}, {"p", "c = 1", api.Plan{Index: 2, At: 2, Asks: 3}}, {"none", "c = 1", api.Plan{Index: 2, At: 2, Asks: 3}},
		{"p", "c = 1 and a >= 1", api.Plan{Index: 0, At: 12, Asks: 3}}, {"p", "c = 1 and a > 1 and b = 1", api.Plan{Index: 0, At: 12, Asks: 2}}, {"q", "c = 1 and a > 1 and b = 1", api.Plan{Index: 1, At: 22, Asks: 1}},
	} {
		mustPlan(t, x, c.class, parsed(t, c.s), c.want)
	}
	mustTell(t, x, "p", parsed(t, "a = 1"), 11)
	mustTell(t, x, "", parsed(t, "a = 1"), 11, 12, 13)
	mustTell(t, x, "none", parsed(t, "c = 1"))
}

// P18.2: by an index that is Some nobody is looked up who has nothing; = with nil, at either side, goes by another one.
func TestSome(t *testing.T) {
	x := fresh(t, api.IndexOf{Way: "a", Some: true}, api.IndexOf{Way: "b"}, api.IndexOf{Way: "b", Some: true})
	for i := range int64(4) {
		mustPut(t, x, api.Ref(i+1), rec(i, sample.Field("b", i)))
	}
	mustPut(t, x, 5, bare())
	mustPut(t, x, 6, rec(nil, sample.Field("b", nil)))
	mustAskAll(t, x, "a = nil")
	mustAskAll(t, x, "nil = a")
	mustGo(t, x, "b = nil", 1, 2, 2)
	mustGo(t, x, "nil = b", 1, 4, 2)
	mustMean(t, x, "a = nil", 5, 6)
	mustMean(t, x, "nil = b", 5, 6)
	mustGo(t, x, "a < nil", 0, 2, 0)
	mustGo(t, x, "nil >= a", 0, 4, 0)
	mustGo(t, x, "a = [nil]", 0, 2, 0)
	mustGo(t, x, "[nil] = b", 1, 6, 0)
	mustGo(t, x, "a = 2 and a = nil", 0, 2, 1)
	mustGo(t, x, "a = nil and a = 2", 0, 14, 1)
}

// P18.2: of several comparisons and indexes the one that asks the fewest; of as few the lowest Index, then the lowest At.
func TestFewest(t *testing.T) {
	x := fresh(t, of("a", "b", "a", "c")...)
	for i := range int64(8) {
		mustPut(t, x, api.Ref(i+1), rec(i, sample.Field("b", i/2), sample.Field("c", i%2 == 0)))
	}
	mustGo(t, x, "a > 1 and a > 3 and a > 2", 0, 12, 4)
	mustGo(t, x, "a > 1 and b = 1", 1, 12, 2)
	mustGo(t, x, "b = 1 and a > 1", 1, 2, 2)
	mustGo(t, x, "b = 1 and a > 5", 0, 12, 2)
	mustGo(t, x, "a > 5 and b = 1", 0, 2, 2)
	mustGo(t, x, "a > 5 and a < 2 and b = 1", 0, 2, 2)
	mustGo(t, x, "b = 1 and a < 2 and a > 5", 0, 12, 2)
	mustGo(t, x, "a < 7 and c = true and b < 2", 1, 25, 4)
	mustGo(t, x, "c = true and b < 3", 3, 2, 4)
	mustGo(t, x, "b < 2 and c = true and a < 4", 0, 25, 4)
	mustGo(t, x, "a = 9 and b = 9 and c = 9", 0, 2, 0)
	mustGo(t, x, "c = 9 and b = 9", 1, 12, 0)
	mustGo(t, x, "a >= 1", 0, 2, 7)
	mustAskAll(t, x, "a >= 0")
	mustAskAll(t, x, "a >= 0 and b >= 0")
	mustGo(t, x, "a >= 0 and b > 0", 1, 13, 6)
}

// P18.2: At plays its part as it was handed in, whatever it is: the lowest, not the first, of as few.
func TestAnyAt(t *testing.T) {
	x := filled(t, of("b", "a"), numbers()...)
	at := func(at int, sign string, n int64) api.Expr {
		return api.Expr{Op: sign, At: at, Parts: []api.Expr{sample.Asked("a"), sample.Fixed(n)}}
	}
	for _, c := range []struct {
		l    []api.Expr
		want api.Plan
	}{
		{[]api.Expr{at(5, "=", 1), at(3, "=", 2), at(4, "=", 3)}, api.Plan{Index: 1, At: 3, Asks: 1}},
		{[]api.Expr{at(-5, "=", 1), at(3, "=", 2), at(-9, ">", 3)}, api.Plan{Index: 1, At: -5, Asks: 1}},
		{[]api.Expr{at(math.MaxInt, "<", 3), at(math.MinInt, ">", 7)}, api.Plan{Index: 1, At: math.MinInt, Asks: 2}},
		{[]api.Expr{at(7, "=", 1), at(7, "<", 1)}, api.Plan{Index: 1, At: 7}},
		{[]api.Expr{at(0, "=", 1), at(0, "=", 2)}, api.Plan{Index: 1, Asks: 1}},
	} {
		left, right := c.l[0], c.l[len(c.l)-1]
		for _, e := range c.l[1:] {
			left = sample.Expr("and", left, e)
		}
		for i := len(c.l) - 2; i >= 0; i-- {
			right = sample.Expr("and", c.l[i], right)
		}
		mustPlan(t, x, "", left, c.want)
		mustPlan(t, x, "", right, c.want)
	}
}

// P18.2: what the table of expressions does not name plays no part, wherever it stands.
func TestPlaysNoPart(t *testing.T) {
	x := fresh(t, append(of("a[0]", "a.b"), api.IndexOf{Way: "a", Some: true})...)
	mustPut(t, x, 1, rec(int64(1)))
	mustPut(t, x, 2, bare())
	with := func(e api.Expr, op, name string, v any) api.Expr {
		e.Op, e.Name, e.Value = op, name, sample.Term(v)
		return e
	}
	one := sample.Fixed(int64(1))
	for _, v := range []any{nil, int64(0), "b", int64(1)} {
		a := with(api.Expr{}, "field", "a", v)
		b := with(api.Expr{}, "field", "b", v)
		self := with(api.Expr{}, "self", "a", v)
		list := with(api.Expr{}, "list", "a", v)
		mustPlan(t, x, "", sample.Expr("=", a, list), api.Plan{Index: 2})
		mustPlan(t, x, "", with(sample.Expr("=", a, with(sample.Expr("neg", one), "neg", "a", v)), "=", "a", v), api.Plan{Index: 2})
		mustPlan(t, x, "", with(sample.Expr("and", sample.Expr("=", one, a), b), "and", "a", v), api.Plan{Index: 2, Asks: 1})
		mustPlan(t, x, "", sample.Expr("=", with(sample.Expr("at", a, sample.Fixed(int64(0))), "at", "b", v), one), api.Plan{Index: 0})
		mustPlan(t, x, "", sample.Expr("=", with(sample.Expr("dot", a), "dot", "b", v), one), api.Plan{Index: 1})
		for _, all := range []api.Expr{
			sample.Expr("=", sample.Expr("at", a, b), one), sample.Expr("=", sample.Expr("at", a, list), one), sample.Expr("=", sample.Expr("at", a, self), one), sample.Expr("=", sample.Expr("at", self, one), one),
			sample.Expr("=", self, one), sample.Expr("=", a, b), sample.Expr("=", a, self), sample.Expr("=", a, sample.Expr("neg", b)), sample.Expr("=", a, sample.Expr("neg", self)), sample.Expr("=", a, sample.Expr("list", b)),
			with(sample.Expr("not", sample.Expr("=", a, one)), "not", "a", v), with(sample.Expr("!=", a, one), "!=", "=", v),
		} {
			mustPlan(t, x, "", all, api.Plan{Index: -1, Asks: 2})
		}
	}
	mustPlan(t, x, "", sample.Expr("=", sample.Asked("a"), with(api.Expr{}, "value", "a", nil)), api.Plan{Index: -1, Asks: 2})
	mustPlan(t, x, "", sample.Expr("=", sample.Asked("a"), with(api.Expr{}, "value", "a", int64(1))), api.Plan{Index: 2, Asks: 1})
}

// P18.2: a table without records, and one without indexes.
func TestNothingToGoBy(t *testing.T) {
	x := fresh(t, of("a")...)
	mustGo(t, x, "a = 1", -1, 0, 0)
	mustMean(t, x, "a = 1")
	mustMean(t, x, "true")
	y := filled(t, nil, numbers()...)
	mustGo(t, y, "a = 1", -1, 0, 9)
	mustMean(t, y, "a = 1", 1)
	mustPut(t, x, 1, rec(int64(1)))
	mustGo(t, x, "a = 1", -1, 0, 1)
	mustGo(t, x, "a = 2", 0, 2, 0)
	mustDrop(t, x, 1, true)
	mustGo(t, x, "a = 2", -1, 0, 0)
}

// P18.2, P18.3, P18.4: a class that can't be, ahead of an expression that can't.
func TestRefused(t *testing.T) {
	x := filled(t, of("a"), numbers()...)
	mustStay(t, "refused", x, func() {
		for _, name := range sample.BadNames() {
			if name == "" {
				continue
			}
			mustRefuse(t, x, name, parsed(t, "a = 1"), api.ErrName)
			mustRefuse(t, x, name, api.Expr{Op: "?"}, api.ErrName)
		}
		for _, w := range sample.WrongExprs() {
			mustRefuse(t, x, "", w.E, api.ErrArg)
			mustRefuse(t, x, "p", w.E, api.ErrArg)
			mustRefuse(t, x, "", sample.Expr("and", sample.Expr("=", sample.Asked("a"), sample.Fixed(int64(1))), w.E), api.ErrArg)
			mustRefuse(t, x, "", sample.Expr("=", sample.Asked("a"), w.E), api.ErrArg)
		}
		mustRefuse(t, x, "", sample.Expr("=", sample.Asked("a"), sample.Expr("neg", sample.Fixed(int64(math.MinInt64)))), api.ErrArg)
	})
	for _, name := range sample.GoodNames() {
		mustPlan(t, x, name, parsed(t, "a = 1"), api.Plan{Index: 0, At: 2, Asks: 1})
	}
}
