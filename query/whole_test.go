package query_test

import (
	"math/rand"
	"slices"
	"strings"
	"testing"

	"tenon/api"
	"tenon/names"
	"tenon/query"
	"tenon/sample"
	"tenon/text"
	"tenon/value"
)

// Example 1.
func TestExampleTexts(t *testing.T) {
	mustBe(t, `age >= 18 and name != "ann"`, sample.Expr("and", sample.Expr(">=", sample.Asked("age"), sample.Fixed(int64(18))), sample.Expr("!=", sample.Asked("name"), sample.Fixed("ann"))))
	mustNotRead(t, "a = b = c", 6, api.ErrMore)
	mustNotRead(t, "1 + ", 4, api.ErrShort)
	mustNotRead(t, "foo(1)", 0, api.ErrWord)
	mustBe(t, "-1", sample.Expr("neg", sample.Fixed(int64(1))))
}

// Example 2.
func TestExampleDict(t *testing.T) {
	v := dict("a", int64(1))
	mustAnswer(t, "b", v, nil)
	mustNotRun(t, "a / 0", v, 2)
	mustNotRun(t, `a < "x"`, v, 2)
	mustAnswer(t, "a = 0x1p+00", v, true)
	mustNotRun(t, "a.b", v, 1)
}

// Example 3.
func TestExampleList(t *testing.T) {
	v := list(1, 2, 3)
	mustAnswer(t, "sum(self)", v, int64(6))
	mustAnswer(t, "pick(self, self > 1)", v, list(2, 3))
	mustAnswer(t, "self[-1]", v, int64(3))
	mustAnswer(t, "any(self, self = 2)", v, true)
}

// P17.5: what was printed reads as the same, or is too deep or too long.
func TestThereAndBack(t *testing.T) {
	r := rand.New(rand.NewSource(175))
	for range 20000 {
		e := sample.AnyExpr(r.Intn, 2+r.Intn(6))
		s, _ := query.Print(e)
		mustBe(t, s, e)
	}
	for depth := 50; depth < 80; depth++ {
		for op, width := range map[string]int{"neg": 1, "not": 4, "list": 1, "len": 4, "at": 5} {
			e := sample.Asked("a")
			for range depth {
				switch op {
				case "len":
					e = sample.Call("len", e)
				case "at":
					e = sample.Expr("at", sample.Expr("self"), e)
				default:
					e = sample.Expr(op, e)
				}
			}
			s, _ := query.Print(e)
			if depth < api.MaxDepth {
				mustBe(t, s, e)
			} else {
				mustNotRead(t, s, width*api.MaxDepth, api.ErrLong)
			}
		}
	}
	s, _ := query.Print(sample.ManyExprs(api.MaxNodes))
	mustNotRead(t, s, 0, api.ErrLong)
	long := sample.Expr("list", repeated(api.MaxNodes-1, sample.Asked("aa"))...)
	s, why := query.Print(long)
	if len(s) != 4*(api.MaxNodes-1) || why != api.OK {
		t.Error(len(s), why)
	}
	mustBe(t, s, long)
	long = sample.Expr("list", repeated(api.MaxNodes-1, sample.Asked("aaa"))...)
	s, _ = query.Print(long)
	mustNotRead(t, s, 0, api.ErrLong)
}

// loosely writes an expression with blanks anywhere, and brackets around parts that need none.
type loosely struct{ *rand.Rand }

func (x loosely) blank() string {
	return []string{"", "", " ", "\n", "\t ", "\r\n", "   "}[x.Intn(7)]
}

// bracketed sets brackets around what a part is, as far as it must, and often if it needn't.
func (x loosely) bracketed(e api.Expr, must bool) string {
	s := x.text(e)
	if must || x.Intn(3) == 0 {
		s = "(" + x.blank() + s + x.blank() + ")"
	}
	if x.Intn(9) == 0 {
		s = "(" + s + ")"
	}
	return s
}

// between lays blanks between two tokens, at least one if they would be read as one.
func (x loosely) between(tokens ...string) string {
	s := x.blank()
	for _, token := range tokens {
		if s != "" && token != "" && names.Byte(s[len(s)-1]) && (names.Byte(token[0]) || strings.Contains("+-.", token[:1])) {
			s += " "
		}
		s += token + x.blank()
	}
	return s
}

func (x loosely) parts(l []api.Expr) []string {
	var tokens []string
	for i, p := range l {
		if i > 0 {
			tokens = append(tokens, ",")
		}
		tokens = append(tokens, x.bracketed(p, false))
	}
	return tokens
}

func (x loosely) text(e api.Expr) string {
	level := levelOf(e.Op)
	needs := func(i, least int) bool {
		n := levelOf(e.Parts[i].Op)
		return n > 0 && n < least
	}
	part := func(i, least int) string { return x.bracketed(e.Parts[i], needs(i, least)) }
	switch e.Op {
	case "value":
		s, _ := text.Print(valueOf(e))
		return x.between(s)
	case "self":
		return x.between("self")
	case "field":
		return x.between(e.Name)
	case "list":
		return x.between(append(append([]string{"["}, x.parts(e.Parts)...), "]")...)
	case "call":
		return x.between(append(append([]string{e.Name, "("}, x.parts(e.Parts)...), ")")...)
	case "not", "neg":
		return x.between(map[string]string{"not": "not", "neg": "-"}[e.Op], part(0, level))
	case "dot":
		isNumber := e.Parts[0].Op == "value"
		return x.between(x.bracketed(e.Parts[0], isNumber || needs(0, 8)), ".", e.Name)
	case "at":
		return x.between(part(0, 8), "[", part(1, 1), "]")
	case "is":
		return x.between(part(0, 5), "is", e.Name)
	}
	left, right := level, level+1
	if level == 4 {
		left = 5
	}
	return x.between(part(0, left), e.Op, part(1, right))
}

// P17.5: blanks and needless brackets change nothing.
func TestLoosely(t *testing.T) {
	x := loosely{rand.New(rand.NewSource(176))}
	other := 0
	for range 20000 {
		e := sample.AnyExpr(x.Intn, 2+x.Intn(5))
		want, _ := query.Print(e)
		s := x.text(e)
		if s != want {
			other++
		}
		back, at, why := query.Parse(s)
		if why != api.OK {
			t.Fatalf("%q, was %s: %d, %d", s, want, at, why)
		}
		if got, _ := query.Print(back); got != want {
			t.Fatalf("%q: %s, was %s", s, got, want)
		}
		// What stands at a place is what the place tells.
		placesMustFit(t, s, back)
	}
	if other < 15000 {
		t.Error("too little:", other)
	}
}

// placesMustFit holds each place of an expression against what stands there.
func placesMustFit(t *testing.T, s string, e api.Expr) {
	t.Helper()
	begins := map[string]string{"neg": "-", "dot": ".", "at": "[", "list": "[", "field": e.Name, "call": e.Name}[e.Op]
	if e.Op == "value" {
		begins, _ = text.Print(valueOf(e))
	} else if begins == "" {
		begins = e.Op
	}
	if !strings.HasPrefix(s[e.At:], begins) {
		t.Errorf("%s@%d: %q", e.Op, e.At, s)
	}
	for _, p := range e.Parts {
		placesMustFit(t, s, p)
	}
}

// asksByNames tells whether an expression asks the value itself for nothing but names.
func asksByNames(e api.Expr) bool {
	parts := e.Parts
	switch {
	case e.Op == "self":
		return false
	case e.Op == "dot" && parts[0].Op == "self":
		return true
	case e.Op == "at" && parts[0].Op == "self" && parts[1].Op == "value" && parts[1].Value.Kind == api.KText && names.Is(parts[1].Value.Text):
		return true
	case e.Op == "call" && slices.Contains([]string{"any", "all", "map", "pick"}, e.Name):
		parts = parts[:1]
	}
	return !slices.ContainsFunc(parts, func(p api.Expr) bool { return !asksByNames(p) })
}

// P17.6: of two dicts that have the same under what it names, it answers the same.
func TestOnlyWhatItNames(t *testing.T) {
	r := rand.New(rand.NewSource(177))
	tried, answered := 0, 0
	for tried < 20000 {
		e := placed(sample.AnyExpr(r.Intn, 2+r.Intn(5)))
		if !asksByNames(e) {
			continue
		}
		asked := query.Names(e)
		if len(asked) == 0 {
			continue
		}
		tried++
		var a, b api.Dict
		for _, name := range []string{"a", "b", "c", "d", "e", "or", "z"} {
			v := sample.Anyhow(r.Intn, 3)
			both := slices.Contains(asked, name)
			if r.Intn(4) > 0 {
				a = append(a, sample.Field(name, v))
				if both {
					b = append(b, sample.Field(name, v))
				}
			}
			if !both && r.Intn(2) == 0 {
				b = append(b, sample.Field(name, sample.Anyhow(r.Intn, 3)))
			}
		}
		got, at, why := query.Eval(e, a)
		if why == api.OK {
			answered++
			mustTell(t, e, b, got)
			mustTell(t, e, sample.Record("k", 1, b...), got)
		} else {
			mustNotTell(t, e, b, at, why)
			mustNotTell(t, e, sample.Record("k", 1, b...), at, why)
		}
	}
	if answered < 3000 {
		t.Error("too little:", answered)
	}
}

// modelCanBe tells whether an expression can be, by the chapter's words.
func modelCanBe(e api.Expr) bool {
	n := len(e.Parts)
	isName := names.Is(e.Name)
	can := false
	switch e.Op {
	case "value":
		v, why := value.Of(e.Value)
		s, _ := text.Print(v)
		k := e.Value.Kind
		can = n == 0 && why == api.OK && k < api.KList && !strings.Contains("-+n", s[:1]) || k == api.KNil && n == 0
	case "self":
		can = n == 0
	case "field":
		can = n == 0 && isName && !slices.Contains(reserved(), e.Name)
	case "list":
		can = true
	case "not", "neg":
		can = n == 1
	case "dot":
		can = n == 1 && isName
	case "is":
		can = n == 1 && slices.Contains(kindWords(), e.Name)
	case "call":
		can = n == 1 && slices.Contains(functions1(), e.Name) || n == 2 && slices.Contains(functions2(), e.Name)
	case "at":
		can = n == 2
	default:
		can = n == 2 && slices.Contains(signs(), e.Op)
	}
	return can && !slices.ContainsFunc(e.Parts, func(p api.Expr) bool { return !modelCanBe(p) })
}

// wild is an expression that is put together of anything.
func wild(r *rand.Rand, depth int) api.Expr {
	ops := append(signs(), "value", "self", "field", "list", "call", "at", "dot", "is", "not", "neg", "value", "self", "field", "list", "call", "call", "nil", "", "len", "x")
	words := append(append(append(kindWords(), functions1()...), functions2()...), "a", "b", "or", "self", "A", "", "nan")
	e := api.Expr{Op: ops[r.Intn(len(ops))], Name: words[r.Intn(len(words))], At: r.Intn(100) - 50}
	switch r.Intn(4) {
	case 0:
		e.Value = sample.Term(sample.Anything(r.Uint64, 2))
	case 1:
		e.Value = sample.Term(sample.Anyhow(r.Intn, 2))
	case 2:
		e.Value = api.Term{Kind: r.Intn(14) - 1, Int: int64(r.Intn(3) - 1)}
	}
	if depth > 1 {
		n := 2 - r.Intn(2)
		switch e.Op {
		case "value", "self", "field":
			n = 0
		case "not", "neg", "dot", "is":
			n = 1
		case "call":
			n = 1 + r.Intn(2)
		}
		if r.Intn(20) == 0 {
			n = r.Intn(4)
		}
		for range n {
			e.Parts = append(e.Parts, wild(r, depth-1))
		}
	}
	return e
}

// bare is the same expression without what plays no part.
func bare(e api.Expr) api.Expr {
	b := api.Expr{Op: e.Op, At: e.At}
	switch e.Op {
	case "field", "dot", "is", "call":
		b.Name = e.Name
	case "value":
		v, _ := value.Of(e.Value)
		b.Value = sample.Term(v)
	}
	for _, p := range e.Parts {
		b.Parts = append(b.Parts, bare(p))
	}
	return b
}

// places is all places of an expression's parts, its own among them.
func places(e api.Expr) []int {
	l := []int{e.At}
	for _, p := range e.Parts {
		l = append(l, places(p)...)
	}
	return l
}

// P17.7: whatever the expression and the value are, there is an answer, or a place of the expression.
func TestNeverAPanic(t *testing.T) {
	r := rand.New(rand.NewSource(178))
	wrongs := sample.Wrongs()
	can, answered := 0, 0
	for range 60000 {
		e := wild(r, 1+r.Intn(4))
		is := modelCanBe(e)
		s, why := query.Print(e)
		if is != (why == api.OK) {
			t.Fatalf("%s: %q, %d", told(e, true), s, why)
		}
		v := sample.Anything(r.Uint64, 3)
		if r.Intn(20) == 0 {
			v = wrongs[r.Intn(len(wrongs))].V
		}
		_, wrong := value.Check(v)
		answer, at, why := query.Eval(e, v)
		switch {
		case wrong != api.OK:
			mustNotTell(t, e, v, 0, wrong)
		case !is:
			mustNotTell(t, e, v, 0, api.ErrArg)
		case why == api.OK:
			answered++
			mustTell(t, e, v, answer)
		default:
			mustNotTell(t, e, v, at, api.ErrRun)
			if !slices.Contains(places(e), at) {
				t.Errorf("%s: %d", told(e, true), at)
			}
		}
		if is {
			can++
			mustBe(t, s, bare(e))
		}
		if t.Failed() {
			return
		}
	}
	if can < 5000 || answered < 2000 {
		t.Error("too little:", can, answered)
	}
}

// P1: two values are the same just if = and in tell so, but for whole numbers beside floats.
func TestOneAndTheSame(t *testing.T) {
	r := rand.New(rand.NewSource(179))
	for range 20000 {
		a, b := sample.Anyhow(r.Intn, 3), sample.Anyhow(r.Intn, 3)
		n, _ := value.Order(a, b)
		if isNumber(a) && isNumber(b) && value.Kind(a) != value.Kind(b) {
			continue
		}
		for _, s := range []string{"self[0] = self[1]", "not self[0] != self[1]", "self[0] in [self[1]]", "[self[0]] = [self[1]]", "any([self], self[0] = self[1])"} {
			mustAnswer(t, s, api.List{a, b}, n == 0)
		}
	}
}

// P6: a question by names answers the same of a record in whatever form.
func TestWhateverForm(t *testing.T) {
	for _, s := range []string{"age", "self.name", `self["home"]`, "keys(self)", "len(self)", `has(self, "age")`, `"gone" in self`, "age >= 18 and name = \"ann\"", "all(kids, self > \"a\")", "age / 0", "nil.a"} {
		e := parsed(t, s)
		got, at, why := query.Eval(e, ann())
		for _, form := range []any{ann().Fields, sample.Record("man", 1, ann().Fields...)} {
			if why == api.OK {
				mustTell(t, e, form, got)
			} else {
				mustNotTell(t, e, form, at, why)
			}
		}
	}
}
