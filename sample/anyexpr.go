package sample

import "tenon/api"

// AnyExpr is an expression, not deeper than that, by a pick of numbers from 0 up to another one; mostly such a one as answers something of dicts with the fields a, b and c.
func AnyExpr(pick func(int) int, depth int) api.Expr { return anyExprs(pick).thing(depth) }

// AnyTruth is likewise; mostly such a one as answers true or false.
func AnyTruth(pick func(int) int, depth int) api.Expr { return anyExprs(pick).truth(depth) }

// anyExprs makes expressions by a pick of numbers.
type anyExprs func(int) int

func (x anyExprs) one(of ...string) string { return of[x(len(of))] }

// leaf is one without parts.
func (x anyExprs) leaf() api.Expr {
	switch x(5) {
	case 0:
		return Expr("self")
	case 1:
		return Fixed([]any{nil, true, false, "", "a", "b", "xa", []byte(nil), []byte{0, 1}, api.Ref(0), api.Ref(2), 1.5, int64(9)}[x(13)])
	}
	return Asked(x.one("a", "b", "c", "d"))
}

func (x anyExprs) thing(depth int) api.Expr {
	if depth <= 1 {
		return x.leaf()
	}
	switch x(12) {
	case 0, 1:
		return x.leaf()
	case 2:
		return ExprOf("dot", x.one("a", "b", "c", "or"), x.thing(depth-1))
	case 3:
		return Expr("at", x.thing(depth-1), Fixed(x.one("a", "b", "A")))
	case 4:
		return Expr("at", x.list(depth-1), x.number(depth-1))
	case 5:
		return Call("kind", x.thing(depth-1))
	case 6:
		return Call(x.one("first", "last", "least", "most"), x.list(depth-1))
	case 7:
		return Expr("+", x.thing(depth-1), x.thing(depth-1))
	case 8, 9:
		return x.number(depth)
	case 10:
		return x.truth(depth)
	}
	return x.list(depth)
}

func (x anyExprs) number(depth int) api.Expr {
	if depth <= 1 || x(3) == 0 {
		return Fixed([]any{int64(0), int64(1), int64(2), int64(1<<63 - 1), 0.0, 1.0, 0.5, int64(1 << 53), float64(1 << 53), int64(1<<53 + 1)}[x(10)])
	}
	switch x(8) {
	case 0:
		return x.thing(depth)
	case 1:
		return Call("len", x.list(depth-1))
	case 2:
		return Call("sum", Expr("list", x.number(depth-1), x.number(depth-1), x.number(depth-1)))
	case 3:
		return Expr("neg", x.number(depth-1))
	}
	return Expr(x.one("+", "-", "*", "/", "%"), x.number(depth-1), x.number(depth-1))
}

func (x anyExprs) truth(depth int) api.Expr {
	if depth <= 1 {
		return Fixed(x(2) == 0)
	}
	switch x(10) {
	case 0:
		return x.leaf()
	case 1:
		return Expr("not", x.truth(depth-1))
	case 2, 3:
		return Expr(x.one("and", "or"), x.truth(depth-1), x.truth(depth-1))
	case 4:
		return ExprOf("is", x.one("nil", "bool", "int", "float", "text", "bytes", "ref", "list", "dict", "record"), x.thing(depth-1))
	case 5:
		return Expr(x.one("=", "!="), x.thing(depth-1), x.thing(depth-1))
	case 6:
		return Expr("in", x.thing(depth-1), x.list(depth-1))
	case 7:
		return Call("has", Expr("self"), x.thing(depth-1))
	case 8:
		return Call(x.one("any", "all"), x.list(depth-1), x.truth(depth-1))
	}
	return Expr(x.one("<", "<=", ">", ">=", "=", "!="), x.number(depth-1), x.number(depth-1))
}

func (x anyExprs) list(depth int) api.Expr {
	if depth <= 1 || x(8) == 0 {
		return x.leaf()
	}
	switch x(6) {
	case 0:
		return Call("map", x.list(depth-1), x.thing(depth-1))
	case 1:
		return Call("pick", x.list(depth-1), x.truth(depth-1))
	case 2:
		return Call("keys", Expr("self"))
	case 3:
		return Expr("+", x.list(depth-1), x.list(depth-1))
	}
	parts := make([]api.Expr, x(4))
	for i := range parts {
		parts[i] = x.thing(depth - 1)
	}
	return Expr("list", parts...)
}
