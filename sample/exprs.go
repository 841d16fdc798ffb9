package sample

import (
	"math"
	"strings"

	"tenon/api"
)

// Expr is an expression of an Op with its parts; it stands nowhere.
func Expr(op string, parts ...api.Expr) api.Expr { return api.Expr{Op: op, Parts: parts} }

// ExprOf is likewise, with a name.
func ExprOf(op, name string, parts ...api.Expr) api.Expr {
	return api.Expr{Op: op, Name: name, Parts: parts}
}

// Fixed is an expression that is a value.
func Fixed(v any) api.Expr { return api.Expr{Op: "value", Value: Term(v)} }

// Asked is an expression that is a field.
func Asked(name string) api.Expr { return api.Expr{Op: "field", Name: name} }

// Call is an expression that is a function's call.
func Call(function string, parts ...api.Expr) api.Expr { return ExprOf("call", function, parts...) }

// ManyExprs is a list of lists that has that many expressions in all, which is above 5000 and below 20000, itself among them.
func ManyExprs(n int) api.Expr {
	first, second := make([]api.Expr, 4000), make([]api.Expr, n-4003)
	for i := range first {
		first[i] = Asked("a")
	}
	for i := range second {
		second[i] = Fixed(nil)
	}
	return Expr("list", Expr("list", first...), Expr("list", second...))
}

// ExprsWithin lays an expression into that many others of Ops with one part, by turns.
func ExprsWithin(n int, e api.Expr, ops ...string) api.Expr {
	for i := range n {
		e = ExprOf(ops[i%len(ops)], "a", e)
	}
	return e
}

// ExprRing is an expression that holds itself.
func ExprRing(op string, n int) api.Expr {
	ring := api.Expr{Op: op, Name: "a", Parts: make([]api.Expr, n)}
	for i := range ring.Parts {
		ring.Parts[i] = ring
	}
	return ring
}

// WrongExpr is an expression that can't be.
type WrongExpr struct {
	Name string
	E    api.Expr
}

// WrongExprs is what can't be: each rule broken by itself, each limit by one.
func WrongExprs() []WrongExpr {
	l := []WrongExpr{
		{"zero", api.Expr{}}, {"too many", ManyExprs(api.MaxNodes + 1)}, {"too many within one another", ExprsWithin(api.MaxNodes, Asked("a"), "not", "neg", "dot")},
		{"ring", ExprRing("not", 1)}, {"ring of dots", ExprRing("dot", 1)}, {"ring of two sides", ExprRing("+", 2)}, {"list ring", ExprRing("list", 5)},
	}
	for _, op := range []string{"Or", "or ", "xor", "==", "<>", "&", "neg ", "call2", "nil", "true", "len", "kind", "name", "(", "any", "map"} {
		l = append(l, WrongExpr{"Op " + op, ExprOf(op, "a")}, WrongExpr{"Op " + op, ExprOf(op, "a", Asked("a"))}, WrongExpr{"Op " + op, ExprOf(op, "a", Asked("a"), Asked("a"))})
	}
	l = append(l, wrongParts()...)
	l = append(l, wrongNames()...)
	l = append(l, wrongConstants()...)
	for i := range l {
		e := l[i].E
		l = append(l, WrongExpr{l[i].Name + " in a list", Expr("list", Asked("a"), e, Asked("b"))}, WrongExpr{l[i].Name + " within", Expr("or", Expr("not", Asked("a")), Call("any", Expr("self"), Expr("<", e, Asked("b"))))})
	}
	return l
}

func wrongParts() []WrongExpr {
	var l []WrongExpr
	part := func(n int) []api.Expr {
		parts := make([]api.Expr, n)
		for i := range parts {
			parts[i] = Asked("a")
		}
		return parts
	}
	wrong := func(right int, e api.Expr) {
		for _, n := range []int{0, 1, 2, 3, 4} {
			if n != right {
				e.Parts = part(n)
				l = append(l, WrongExpr{e.Op + " " + e.Name + " with other parts", e})
			}
		}
	}
	wrong(0, Fixed(nil))
	wrong(0, Expr("self"))
	wrong(0, Asked("a"))
	for _, op := range []string{"not", "neg", "dot"} {
		wrong(1, ExprOf(op, "a"))
	}
	wrong(1, ExprOf("is", "int"))
	for _, op := range strings.Fields("or and = != < <= > >= in + - * / % at") {
		wrong(2, Expr(op))
	}
	for _, function := range strings.Fields("len kind keys first last sum least most") {
		wrong(1, Call(function))
	}
	for _, function := range strings.Fields("has any all map pick") {
		wrong(2, Call(function))
	}
	return l
}

func wrongNames() []WrongExpr {
	var l []WrongExpr
	for _, name := range BadNames() {
		l = append(l, WrongExpr{"field " + name, Asked(name)}, WrongExpr{"dot " + name, ExprOf("dot", name, Asked("a"))})
	}
	for _, word := range strings.Fields("or and not in is nil true false self nan") {
		l = append(l, WrongExpr{"field " + word, Asked(word)})
	}
	for _, word := range []string{"", "a", "Int", "string", "any", "none", "self", "true", "int "} {
		l = append(l, WrongExpr{"is " + word, ExprOf("is", word, Asked("a"))})
	}
	for _, word := range []string{"", "a", "Len", "len ", "not", "int", "or", "value", "in"} {
		l = append(l, WrongExpr{"call " + word, Call(word)}, WrongExpr{"call " + word, Call(word, Asked("a"))}, WrongExpr{"call " + word, Call(word, Asked("a"), Asked("a"))})
	}
	return l
}

func wrongConstants() []WrongExpr {
	var l []WrongExpr
	wrong := func(name string, t api.Term) {
		l = append(l, WrongExpr{"value " + name, api.Expr{Op: "value", Value: t}})
	}
	for _, v := range []any{int64(-1), int64(math.MinInt64), MinusZero(), -1.5, -math.SmallestNonzeroFloat64, math.Inf(1), math.Inf(-1), math.NaN(), Bits(0xfff8000000000001), Bits(0x7ff0000000000001), api.List{}, api.List{nil}, api.Dict{}, api.Dict{Field("a", nil)}, Record("a", 1)} {
		wrong(Told(v), Term(v))
	}
	wrong("zero", api.Term{})
	wrong("nothing", api.Term{Kind: api.KNothing})
	wrong("of a kind below", api.Term{Kind: -1})
	wrong("of a kind beyond", api.Term{Kind: 12})
	wrong("too long", api.Term{Kind: api.KText, Text: strings.Repeat("x", api.MaxText+1)})
	wrong("of too many bytes", api.Term{Kind: api.KBytes, Bytes: make([]byte, api.MaxText+1)})
	return l
}
