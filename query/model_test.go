package query_test

import (
	"fmt"
	"math"
	"math/big"
	"math/rand"
	"slices"
	"strings"
	"testing"

	"tenon/api"
	"tenon/names"
	"tenon/query"
	"tenon/sample"
	"tenon/text"
	"tenon/value"
)

// model answers expressions as plainly as the chapter says it; numbers by package big.
type model struct {
	asked int
	at    int
	why   api.Errno
	seen  map[string]int // how often an Op or function told something
}

// stop tells where it could not go on; the first place counts.
func (m *model) stop(e api.Expr, why api.Errno) any {
	if m.why == api.OK {
		m.at, m.why = e.At, why
	}
	return nil
}

func (m *model) eval(e api.Expr, self any) any {
	if m.why != api.OK {
		return nil
	}
	if m.asked++; m.asked > api.MaxSteps {
		return m.stop(e, api.ErrLong)
	}
	var answer any
	can := true
	word := e.Op
	if e.Op == "call" {
		word = e.Name
	}
	switch word {
	case "any", "all", "map", "pick":
		if e.Op == "call" {
			answer, can = m.each(e, self)
		}
	case "or", "and":
		answer, can = m.either(e, self)
	default:
		var of []any
		for _, p := range e.Parts {
			of = append(of, m.eval(p, self))
		}
		if m.why != api.OK {
			return nil
		}
		answer, can = m.plain(e, self, of)
	}
	if m.why != api.OK {
		return nil
	}
	if !can {
		return m.stop(e, api.ErrRun)
	}
	if _, why := value.Check(answer); why != api.OK {
		return m.stop(e, why)
	}
	m.seen[word]++
	return answer
}

func (m *model) either(e api.Expr, self any) (any, bool) {
	for i, p := range e.Parts {
		b, is := m.eval(p, self).(bool)
		if !is || i == 1 || b == (e.Op == "or") {
			return b, is
		}
	}
	return nil, false
}

func (m *model) each(e api.Expr, self any) (any, bool) {
	l, is := m.eval(e.Parts[0], self).(api.List)
	if !is {
		return nil, false
	}
	var told, picked api.List
	for _, v := range l {
		answer := m.eval(e.Parts[1], v)
		if m.why != api.OK {
			return nil, true
		}
		told = append(told, answer)
		if e.Name == "map" {
			continue
		}
		b, is := answer.(bool)
		if !is {
			return nil, false
		}
		if b {
			picked = append(picked, v)
		}
		if e.Name == "any" && b || e.Name == "all" && !b {
			return b, true
		}
	}
	switch e.Name {
	case "any":
		return false, true
	case "all":
		return true, true
	case "map":
		return told, true
	}
	return picked, true
}

func (m *model) plain(e api.Expr, self any, of []any) (any, bool) {
	switch e.Op {
	case "value":
		v, _ := value.Of(e.Value)
		return v, true
	case "self":
		return self, true
	case "field":
		return modelUnder(self, e.Name)
	case "dot":
		return modelUnder(of[0], e.Name)
	case "at":
		if name, is := of[1].(string); is {
			return modelUnder(of[0], name)
		}
		l, is := of[0].(api.List)
		n, isInt := of[1].(int64)
		if n < 0 {
			n += int64(len(l))
		}
		for i, v := range l {
			if int64(i) == n {
				return v, isInt
			}
		}
		return nil, is && isInt
	case "list":
		return api.List(of), true
	case "not":
		b, is := of[0].(bool)
		return !b, is
	case "neg":
		return modelReckon("neg", of[0], of[0])
	case "is":
		return kindWords()[value.Kind(of[0])-1] == e.Name, true
	case "call":
		return modelCall(e.Name, of)
	}
	return modelJoin(e.Op, of[0], of[1])
}

func modelFields(v any) (api.Dict, bool) {
	if r, is := v.(*api.Record); is {
		return r.Fields, true
	}
	d, is := v.(api.Dict)
	return d, is
}

func modelUnder(v any, name string) (any, bool) {
	d, is := modelFields(v)
	for _, f := range d {
		if f.Name == name {
			return f.Value, true
		}
	}
	return nil, is
}

func modelCall(function string, of []any) (any, bool) {
	fields, isDict := modelFields(of[0])
	l, isList := of[0].(api.List)
	switch function {
	case "len":
		t, isText := of[0].(string)
		b, isBytes := of[0].([]byte)
		return int64(len(t) + len(b) + len(l) + len(fields)), isText || isBytes || isList || isDict
	case "kind":
		return kindWords()[value.Kind(of[0])-1], true
	case "keys":
		names := api.List{}
		for _, f := range fields {
			names = append(names, f.Name)
		}
		return names, isDict
	case "has":
		name, isText := of[1].(string)
		return slices.ContainsFunc(fields, func(f api.Field) bool { return f.Name == name }), isDict && isText
	case "first":
		if len(l) == 0 {
			return nil, isList
		}
		return l[0], true
	case "last":
		if len(l) == 0 {
			return nil, isList
		}
		return l[len(l)-1], true
	case "sum":
		var sum any = int64(0)
		for _, v := range l {
			next, can := modelReckon("+", sum, v)
			if !can {
				return nil, false
			}
			sum = next
		}
		return sum, isList
	}
	op := map[string]string{"least": "<", "most": ">"}[function]
	if len(l) == 0 {
		return nil, isList
	}
	leads := l[0]
	for _, v := range l {
		ahead, can := modelHeld(op, v, leads)
		if !can {
			return nil, false
		}
		if ahead {
			leads = v
		}
	}
	return leads, true
}

func modelJoin(op string, a, b any) (any, bool) {
	switch op {
	case "=":
		return modelEqual(a, b), true
	case "!=":
		return !modelEqual(a, b), true
	case "<", "<=", ">", ">=":
		return modelHeld(op, a, b)
	case "in":
		l, is := b.(api.List)
		for _, v := range l {
			if modelEqual(a, v) {
				return true, true
			}
		}
		if is {
			return false, true
		}
		return modelCall("has", []any{b, a})
	case "+":
		switch x := a.(type) {
		case string:
			y, is := b.(string)
			return x + y, is
		case []byte:
			y, is := b.([]byte)
			return []byte(string(x) + string(y)), is
		case api.List:
			y, is := b.(api.List)
			return append(append(api.List{}, x...), y...), is
		}
	}
	return modelReckon(op, a, b)
}

// exact is a number as it is, if it is one; a NaN is none.
func exact(v any) (*big.Float, bool) {
	switch x := v.(type) {
	case int64:
		return new(big.Float).SetPrec(2000).SetInt64(x), true
	case float64:
		if x != x {
			return nil, false
		}
		return new(big.Float).SetPrec(2000).SetFloat64(x), true
	}
	return nil, false
}

func isNumber(v any) bool { return value.Kind(v) == api.KInt || value.Kind(v) == api.KFloat }

func modelEqual(a, b any) bool {
	if isNumber(a) && isNumber(b) && value.Kind(a) != value.Kind(b) {
		x, isX := exact(a)
		y, isY := exact(b)
		return isX && isY && x.Cmp(y) == 0
	}
	return value.Same(a, b)
}

func modelHeld(op string, a, b any) (bool, bool) {
	var n int
	if isNumber(a) && isNumber(b) {
		x, isX := exact(a)
		y, isY := exact(b)
		if !isX || !isY {
			return false, true
		}
		n = x.Cmp(y)
	} else {
		k := value.Kind(a)
		if k != value.Kind(b) || k != api.KText && k != api.KBytes && k != api.KBool {
			return false, false
		}
		n, _ = value.Order(a, b)
	}
	return op == "<" && n < 0 || op == "<=" && n <= 0 || op == ">" && n > 0 || op == ">=" && n >= 0, true
}

func modelReckon(op string, a, b any) (any, bool) {
	x, isX := a.(int64)
	y, isY := b.(int64)
	if isX && isY {
		return modelWhole(op, big.NewInt(x), big.NewInt(y))
	}
	if !isNumber(a) || !isNumber(b) {
		return nil, false
	}
	f, g := math.NaN(), math.NaN()
	for i, v := range []any{a, b} {
		into := []*float64{&f, &g}[i]
		switch x := v.(type) {
		case int64:
			*into, _ = new(big.Float).SetInt64(x).Float64()
		case float64:
			*into = x
		}
	}
	var answer float64
	switch op {
	case "+":
		answer = f + g
	case "-":
		answer = f - g
	case "*":
		answer = f * g
	case "/":
		answer = f / g
	case "neg":
		answer = math.Copysign(f, -math.Copysign(1, f))
	default:
		return nil, false
	}
	if answer != answer {
		answer = sample.Bits(0x7ff8000000000001)
	}
	return answer, true
}

func modelWhole(op string, x, y *big.Int) (any, bool) {
	answer := new(big.Int)
	switch {
	case op == "+":
		answer.Add(x, y)
	case op == "-":
		answer.Sub(x, y)
	case op == "*":
		answer.Mul(x, y)
	case op == "neg":
		answer.Neg(x)
	case y.Sign() == 0:
		return nil, false
	case op == "/":
		answer.Quo(x, y)
	case op == "%":
		answer.Rem(x, y)
	default:
		return nil, false
	}
	return answer.Int64(), answer.IsInt64()
}

// mustDoAsModel holds what an expression answers of a value against the model.
func mustDoAsModel(t *testing.T, m *model, e api.Expr, v any) {
	t.Helper()
	m.asked, m.at, m.why = 0, 0, api.OK
	want := m.eval(e, v)
	if m.why == api.OK {
		mustTell(t, e, v, want)
	} else {
		mustNotTell(t, e, v, m.at, m.why)
	}
}

// placed gives each expression within one a place of its own.
func placed(e api.Expr) api.Expr {
	next := 0
	var place func(e api.Expr) api.Expr
	place = func(e api.Expr) api.Expr {
		next++
		e.At = next*7 - 50
		parts := slices.Clone(e.Parts)
		for i := range parts {
			parts[i] = place(parts[i])
		}
		e.Parts = parts
		return e
	}
	return place(e)
}

// P17.3: expressions of all sorts of values of all sorts.
func TestModel(t *testing.T) {
	r := rand.New(rand.NewSource(17))
	m := &model{seen: map[string]int{}}
	why := map[api.Errno]int{}
	for range 60000 {
		e := placed(sample.AnyExpr(r.Intn, 2+r.Intn(5)))
		for range 3 {
			v := sample.Anyhow(r.Intn, 5)
			if r.Intn(4) > 0 {
				v = dict("a", v, "b", sample.Anyhow(r.Intn, 4), "c", list(1, 2, r.Intn(5)))
			}
			mustDoAsModel(t, m, e, v)
			why[m.why]++
		}
		if t.Failed() {
			return
		}
	}
	for _, op := range append(append(append(signs(), functions1()...), functions2()...), "not", "neg", "is", "dot", "at", "list", "field", "self", "value") {
		if m.seen[op] < 200 {
			t.Errorf("%s told something just %d times", op, m.seen[op])
		}
	}
	if why[api.OK] < 20000 || why[api.ErrRun] < 20000 {
		t.Error(why)
	}
}

// edges are numbers at which something turns.
func edges() []any {
	l := []any{math.NaN(), sample.Bits(0xfff8000000000001), sample.Bits(0x7ff0000000000001), math.Inf(1), math.Inf(-1), 0.0, sample.MinusZero(), 0.5, -0.5, 1.5, -1.5, 1e300, -1e300, math.MaxFloat64, math.SmallestNonzeroFloat64, -math.SmallestNonzeroFloat64}
	for _, n := range []int64{0, 1, 2, 3, 7, 10, 3037000499, 3037000500, 1 << 31, 1 << 32, 1 << 52, 1 << 53, 1 << 54, 1 << 62, 1<<62 + 1} {
		for d := int64(-1); d <= 1; d++ {
			l = append(l, n+d, -n-d, float64(n)+float64(d), -float64(n)-float64(d))
		}
	}
	l = append(l, int64(math.MaxInt64), int64(math.MaxInt64-1), int64(math.MinInt64), int64(math.MinInt64+1), int64(math.MaxInt64-1023), int64(math.MaxInt64-511), int64(math.MaxInt64-512))
	for _, f := range []float64{1 << 63, 1 << 64, -1 << 63, -1 << 64} {
		l = append(l, f, math.Nextafter(f, 0), math.Nextafter(f, 2*f))
	}
	return l
}

// P17.3: each Op of each two edges.
func TestEdges(t *testing.T) {
	m := &model{seen: map[string]int{}}
	l := edges()
	for _, op := range signs() {
		e := placed(sample.Expr(op, sample.Expr("at", sample.Expr("self"), sample.Fixed(int64(0))), sample.Expr("at", sample.Expr("self"), sample.Fixed(int64(1)))))
		for _, a := range l {
			for _, b := range l {
				mustDoAsModel(t, m, e, api.List{a, b})
			}
			if t.Failed() {
				return
			}
		}
	}
	for _, a := range l {
		mustDoAsModel(t, m, sample.Expr("neg", sample.Expr("self")), a)
		mustDoAsModel(t, m, sample.Call("sum", sample.Expr("self")), api.List{a})
		for _, b := range l {
			for _, f := range []string{"sum", "least", "most"} {
				mustDoAsModel(t, m, sample.Call(f, sample.Expr("self")), api.List{a, b, int64(1)})
			}
		}
	}
}

// P17.3: each Op and function of values of every kind.
func TestKinds(t *testing.T) {
	m := &model{seen: map[string]int{}}
	l := append(sample.Rising(), api.List{int64(1), 2.0}, api.List{"a", "b"}, dict("a", int64(1), "b", nil), sample.Record("c", 1, sample.Field("a", nil), sample.Field("z", "z")), "A", "z", api.List{true, false})
	first, second := sample.Expr("at", sample.Expr("self"), sample.Fixed(int64(0))), sample.Expr("at", sample.Expr("self"), sample.Fixed(int64(1)))
	for _, op := range append(signs(), "at") {
		e := placed(sample.Expr(op, first, second))
		for _, a := range l {
			for _, b := range l {
				mustDoAsModel(t, m, e, api.List{a, b})
			}
		}
	}
	for _, a := range l {
		for _, b := range l {
			mustDoAsModel(t, m, placed(sample.Call("has", first, second)), api.List{a, b})
			mustDoAsModel(t, m, placed(sample.Call("least", sample.Expr("self"))), api.List{a, b})
			mustDoAsModel(t, m, placed(sample.Call("most", sample.Expr("self"))), api.List{a, b})
		}
		for _, f := range functions1() {
			mustDoAsModel(t, m, placed(sample.Call(f, sample.Expr("self"))), a)
		}
		for _, op := range []string{"not", "neg"} {
			mustDoAsModel(t, m, placed(sample.Expr(op, sample.Expr("self"))), a)
		}
		for _, word := range kindWords() {
			mustDoAsModel(t, m, placed(sample.ExprOf("is", word, sample.Expr("self"))), a)
		}
		for _, f := range functions2()[1:] {
			mustDoAsModel(t, m, placed(sample.Call(f, sample.Expr("self"), sample.Fixed(true))), a)
			mustDoAsModel(t, m, placed(sample.Call(f, sample.Expr("list", sample.Fixed(nil), sample.Expr("self")), sample.Expr("self"))), a)
			mustDoAsModel(t, m, placed(sample.Call(f, sample.Fixed(nil), sample.Expr("at", sample.Expr("self"), sample.Expr("neg", sample.Expr("self"))))), a)
		}
		mustDoAsModel(t, m, placed(sample.Asked("a")), a)
		mustDoAsModel(t, m, placed(sample.ExprOf("dot", "z", sample.Expr("self"))), a)
	}
}

// reading is a reader of another make: a line of what is open, and of each the signs that wait for a right side.
type reading struct {
	s     string
	at    int
	begun int
	open  []*frame
}

// frame is an open bracket, or the whole.
type frame struct {
	kind  string // "", "(", "list", "at", "call"
	at    int
	name  string
	parts []api.Expr
	waits []api.Expr // signs, nots and negs without their last part
	have  *api.Expr
	is    bool // what it has is an is without brackets
}

type fault struct {
	at  int
	why api.Errno
}

func (r *reading) fail(at int, why api.Errno) { panic(fault{at, why}) }

func (r *reading) top() *frame { return r.open[len(r.open)-1] }

func (r *reading) blanks() {
	r.at += len(r.s[r.at:]) - len(strings.TrimLeft(r.s[r.at:], " \t\n\r"))
}

func (r *reading) begin(at int) {
	if r.begun++; r.begun > api.MaxNodes {
		r.fail(at, api.ErrLong)
	}
}

// wordHere is the word that stands here, if one does.
func (r *reading) wordHere() string {
	end := r.at
	for end < len(r.s) && (r.s[end] >= 'a' && r.s[end] <= 'z' || end > r.at && (r.s[end] >= '0' && r.s[end] <= '9' || r.s[end] == '_')) {
		end++
	}
	return r.s[r.at:end]
}

func modelParse(s string) (e api.Expr, at int, why api.Errno) {
	if len(s) > api.MaxText {
		return e, 0, api.ErrLong
	}
	defer func() {
		if f, is := recover().(fault); is {
			e, at, why = api.Expr{}, f.at, f.why
		}
	}()
	r := &reading{s: s, open: []*frame{{}}}
	for {
		if r.top().have == nil {
			r.want()
		} else if r.more() {
			return *r.top().have, 0, api.OK
		}
	}
}

// levelOf is an Op's, as it stands in what waits.
func levelOf(op string) int {
	switch op {
	case "not":
		return 3
	case "neg":
		return 7
	case "is":
		return 4
	}
	return levels()[op]
}

// close gives all that waits and is of that level, or a higher one, its last part.
func (f *frame) close(level int) {
	for len(f.waits) > 0 && levelOf(f.waits[len(f.waits)-1].Op) >= level {
		e := f.waits[len(f.waits)-1]
		f.waits = f.waits[:len(f.waits)-1]
		e.Parts = append(slices.Clone(e.Parts), *f.have)
		f.have = &e
	}
}

// want reads where a thing must come.
func (r *reading) want() {
	r.blanks()
	f, at := r.top(), r.at
	around := -1
	for _, g := range r.open {
		around++
		for _, w := range g.waits {
			if len(w.Parts) == 0 {
				around++
			}
		}
	}
	word := r.wordHere()
	mayNot := len(f.waits) == 0 || levelOf(f.waits[len(f.waits)-1].Op) <= 3
	switch {
	case at == len(r.s):
		r.fail(at, api.ErrShort)
	case word == "" && !strings.Contains("-([\"#@0123456789", r.s[at:at+1]):
		r.fail(at, api.ErrForm)
	case around >= api.MaxDepth:
		r.fail(at, api.ErrLong)
	case word == "not" && mayNot:
		r.begin(at)
		r.at += 3
		f.waits = append(f.waits, api.Expr{Op: "not", At: at})
	case r.s[at] == '-':
		r.begin(at)
		r.at++
		f.waits = append(f.waits, api.Expr{Op: "neg", At: at})
	case r.s[at] == '(':
		r.at++
		r.open = append(r.open, &frame{kind: "(", at: at})
	case r.s[at] == '[':
		r.begin(at)
		r.at++
		r.enter(&frame{kind: "list", at: at}, "]")
	case word == "" || word == "nil" || word == "true" || word == "false":
		r.begin(at)
		rest := r.s[at:]
		if word != "" {
			rest = word
		}
		v, n, why := text.First(rest)
		if why != api.OK {
			r.fail(at+n, why)
		}
		r.at += n
		f.have = &api.Expr{Op: "value", At: at, Value: sample.Term(v)}
	default:
		r.named(word, at)
	}
}

// enter opens a bracket that may be shut right away.
func (r *reading) enter(f *frame, shut string) {
	r.open = append(r.open, f)
	r.blanks()
	if strings.HasPrefix(r.s[r.at:], shut) {
		r.at++
		r.shut()
	}
}

func (r *reading) named(word string, at int) {
	f := r.top()
	r.at += len(word)
	if word == "self" {
		r.begin(at)
		f.have = &api.Expr{Op: "self", At: at}
		return
	}
	if slices.Contains(reserved(), word) || !names.Is(word) {
		r.fail(at, api.ErrWord)
	}
	r.blanks()
	if !strings.HasPrefix(r.s[r.at:], "(") {
		r.begin(at)
		f.have = &api.Expr{Op: "field", At: at, Name: word}
		return
	}
	if !slices.Contains(append(functions1(), functions2()...), word) {
		r.fail(at, api.ErrWord)
	}
	r.begin(at)
	r.at++
	r.enter(&frame{kind: "call", at: at, name: word}, ")")
}

// shut makes a thing of the bracket that is open.
func (r *reading) shut() {
	f := r.top()
	r.open = r.open[:len(r.open)-1]
	e := api.Expr{Op: f.kind, At: f.at, Name: f.name, Parts: f.parts}
	switch f.kind {
	case "(":
		e = f.parts[0]
	case "call":
		n := 1
		if slices.Contains(functions2(), f.name) {
			n = 2
		}
		if len(f.parts) != n {
			r.fail(f.at, api.ErrWord)
		}
	case "at":
		e.Parts = append([]api.Expr{*r.top().have}, f.parts...)
	}
	r.top().have = &e
}

// more reads behind a thing; whether the whole is read.
func (r *reading) more() bool {
	r.blanks()
	f, at := r.top(), r.at
	rest := r.s[at:]
	word := r.wordHere()
	switch {
	case f.is:
	case strings.HasPrefix(rest, "."):
		r.begin(at)
		r.at++
		name := r.must(names.Is)
		f.have = &api.Expr{Op: "dot", At: at, Name: name, Parts: []api.Expr{*f.have}}
		return false
	case strings.HasPrefix(rest, "["):
		r.begin(at)
		r.at++
		r.open = append(r.open, &frame{kind: "at", at: at})
		return false
	}
	for _, op := range append([]string{"<=", ">="}, append(signs(), "is")...) {
		if word == op || word == "" && strings.HasPrefix(rest, op) {
			if r.sign(op, at) {
				return false
			}
			break
		}
	}
	f.close(0)
	shut := map[string]string{"(": ")", "list": "]", "at": "]", "call": ")"}[f.kind]
	switch {
	case f.kind == "" && rest == "":
		return true
	case f.kind == "":
		r.fail(at, api.ErrMore)
	case rest == "":
		r.fail(at, api.ErrShort)
	case strings.HasPrefix(rest, shut):
		r.at++
		f.parts = append(f.parts, *f.have)
		r.shut()
	case rest[0] == ',' && (f.kind == "list" || f.kind == "call"):
		r.at++
		f.parts = append(f.parts, *f.have)
		f.have, f.is = nil, false
	default:
		r.fail(at, api.ErrForm)
	}
	return false
}

// sign reads a sign, if it may stand behind what is there.
func (r *reading) sign(op string, at int) bool {
	f := r.top()
	level := levelOf(op)
	if level >= 4 && f.is {
		return false
	}
	f.close(max(level, 5))
	if len(f.waits) > 0 && level == 4 && levelOf(f.waits[len(f.waits)-1].Op) == 4 {
		return false
	}
	f.close(level)
	f.is = op == "is"
	r.begin(at)
	r.at += len(op)
	e := api.Expr{Op: op, At: at, Parts: []api.Expr{*f.have}}
	f.have = nil
	if op == "is" {
		e.Name = r.must(func(word string) bool { return slices.Contains(kindWords(), word) })
		f.have = &e
		return true
	}
	f.waits = append(f.waits, e)
	return true
}

// must reads a word of a sort.
func (r *reading) must(is func(string) bool) string {
	r.blanks()
	word := r.wordHere()
	switch {
	case r.at == len(r.s):
		r.fail(r.at, api.ErrShort)
	case word == "":
		r.fail(r.at, api.ErrForm)
	case !is(word):
		r.fail(r.at, api.ErrWord)
	}
	r.at += len(word)
	return word
}

// mustReadAsModel holds Parse against the model, and tells why it was refused.
func mustReadAsModel(t *testing.T, s string) api.Errno {
	t.Helper()
	e, at, why := query.Parse(s)
	want, wantAt, wantWhy := modelParse(s)
	if told(e, true) != told(want, true) || at != wantAt || why != wantWhy {
		t.Errorf("Parse(%q): %s, %d, %d, want %s, %d, %d", short(s), short(told(e, true)), at, why, short(told(want, true)), wantAt, wantWhy)
	}
	return why
}

// P17.1: texts of all sorts, most of them with a mistake.
func TestReadModel(t *testing.T) {
	r := rand.New(rand.NewSource(171))
	words := strings.Fields(`a b not not ( ( ) ) [ [ ] ] - - + * / % = != < <= > >= in is int text or and . , , 1 2 0x1.8p+00 "x" #0a @7 nil true self len( has( any( foo nan ! 1-2 @01 " _a A len aaaaaaaaaaaaaaaaaaaaaaaaaaaaaaaaa`)
	why := map[api.Errno]int{}
	for range 80000 {
		var b strings.Builder
		for range 1 + r.Intn(12) {
			b.WriteString([]string{" ", " ", " ", " ", "", "\n"}[r.Intn(6)] + words[r.Intn(len(words))])
		}
		why[mustReadAsModel(t, b.String())]++
		if t.Failed() {
			return
		}
	}
	// Texts that are right, or were so till one place was spoilt.
	for range 15000 {
		s, _ := query.Print(sample.AnyExpr(r.Intn, 2+r.Intn(4)))
		why[mustReadAsModel(t, s)]++
		at := r.Intn(len(s) + 1)
		to := min(len(s), at+r.Intn(3))
		why[mustReadAsModel(t, s[:at]+[]string{"", " ", words[r.Intn(len(words))], s[at:to] + s[at:to]}[r.Intn(4)]+s[to:])]++
		why[mustReadAsModel(t, s[:at])]++
		why[mustReadAsModel(t, strings.Repeat([]string{"(", "-", "not ", "[", "a["}[r.Intn(5)], 58+r.Intn(8))+s)]++
		if t.Failed() {
			return
		}
	}
	for _, e := range []api.Errno{api.OK, api.ErrLong, api.ErrForm, api.ErrShort, api.ErrMore, api.ErrWord} {
		if why[e] < 1000 {
			t.Error(fmt.Sprint(why))
		}
	}
}
