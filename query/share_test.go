package query_test

import (
	"slices"
	"testing"

	"tenon/api"
	"tenon/query"
	"tenon/sample"
	"tenon/value"
)

// full is a text with lists of parts, bytes and names at many places.
const full = `[#0102, a, [b, #0304, []], len(a) + has(self, "x"), #05 + #06, any(a, self = #0708), not a.b[#09] and -c or d is int, "text", @7]`

// lists gathers the lists of parts and the bytes that an expression holds.
func lists(e api.Expr) (parts [][]api.Expr, bytes [][]byte) {
	if e.Value.Kind == api.KBytes {
		bytes = append(bytes, e.Value.Bytes)
	}
	if cap(e.Parts) > 0 {
		parts = append(parts, e.Parts)
	}
	for _, p := range e.Parts {
		morePart, moreBytes := lists(p)
		parts, bytes = append(parts, morePart...), append(bytes, moreBytes...)
	}
	return parts, bytes
}

// Memory: none of what Parse answers is shared with anything else of this or another answer.
func TestReadApart(t *testing.T) {
	first, second := parsed(t, full), parsed(t, full)
	want := told(second, true)
	partsOf, bytesOf := lists(first)
	if len(partsOf) < 12 || len(bytesOf) < 6 {
		t.Fatal(len(partsOf), len(bytesOf))
	}
	for i, parts := range partsOf {
		for j := range parts[:cap(parts)] {
			parts[:cap(parts)][j] = api.Expr{At: i}
		}
	}
	for i, b := range bytesOf {
		for j := range b[:cap(b)] {
			b[:cap(b)][j] = byte(i)
		}
	}
	for i, parts := range partsOf {
		if slices.ContainsFunc(parts[:cap(parts)], func(e api.Expr) bool { return e.At != i }) {
			t.Error(i, "shares its parts")
		}
	}
	for i, b := range bytesOf {
		if slices.ContainsFunc(b[:cap(b)], func(c byte) bool { return c != byte(i) }) {
			t.Error(i, "shares its bytes")
		}
	}
	if told(second, true) != want || told(parsed(t, full), true) != want {
		t.Error("another answer has changed")
	}
}

// roomyExpr is the same expression with spare room behind all its lists and bytes, and marks in it.
func roomyExpr(e api.Expr) api.Expr {
	if e.Value.Kind == api.KBytes {
		e.Value.Bytes = sample.Roomy(e.Value.Bytes).([]byte)
	}
	parts := make([]api.Expr, 0, len(e.Parts)+2)
	for _, p := range e.Parts {
		parts = append(parts, roomyExpr(p))
	}
	e.Parts = append(parts, api.Expr{Op: "room"}, api.Expr{Op: "room"})[:len(parts)]
	return e
}

func exprRoomKept(e api.Expr) bool {
	room := e.Parts[len(e.Parts):cap(e.Parts)]
	if room[0].Op != "room" || room[1].Op != "room" || e.Value.Kind == api.KBytes && !sample.RoomKept(e.Value.Bytes) {
		return false
	}
	return !slices.ContainsFunc(e.Parts, func(p api.Expr) bool { return !exprRoomKept(p) })
}

// askings is texts that answer of rich what shares memory with much, if it isn't copied.
func askings() []string {
	return []string{"self", "a", "self.l", `self["d"]`, "l[0]", "l[-1]", "[self, self]", "[a, a, l, d, r]", "#0102", "[#0102, #0102]", "first(l)", "last(l)", "pick(l, true)", "pick([l, l], true)", "map(l, self)", "map(l, [self, self])", "map([1, 2, 3], #0405)", "map([1, 2], [#06, #07])", "l + l", "l + []", "[] + l", "a + #", "# + a", "a + a", "least([a, a])", "most([a])", "r.a", "d.a", "first([self]).d", "keys(self)", "map(pick(l + [r], true), [self])", "map([self, self], l)", "[[], [], l + l, map([], 1)]", "true and false", "len(l)"}
}

// rich is a dict with bytes, a list, a dict and a record.
func rich() api.Dict {
	return dict("a", []byte{1, 2, 3}, "d", dict("a", []byte{9}), "l", api.List{[]byte{4}, api.List{[]byte{5}, nil}, dict("b", api.List{})}, "r", sample.Record("c", 1, sample.Field("a", []byte{6})))
}

// Memory: what is handed in is neither changed nor kept, and what is answered is new.
func TestAnsweredApart(t *testing.T) {
	for _, s := range askings() {
		want, at, why := query.Eval(parsed(t, s), rich())
		if at != 0 || why != api.OK {
			t.Fatal(s, at, why)
		}
		v := sample.Roomy(rich())
		e := roomyExpr(parsed(t, s))
		plain := told(e, true)
		first, _, _ := query.Eval(e, v)
		second, _, _ := query.Eval(e, v)
		query.Match(e, v)
		query.Print(e)
		query.Names(e)
		if !sample.RoomKept(v) || !exprRoomKept(e) || !value.Same(v, rich()) || told(e, true) != plain {
			t.Error(s, "what is handed in has changed")
		}
		if i, ok := sample.Apart(first, v, second); !ok {
			t.Error(s, i, "is shared")
		}
		if told(e, true) != plain || !exprRoomKept(e) {
			t.Error(s, "the expression has changed")
		}
		third, _, _ := query.Eval(e, rich())
		if !value.Same(third, want) {
			t.Errorf("%s: %s, was %s", s, sample.Told(third), sample.Told(want))
		}
		parts, bytes := lists(e)
		for _, l := range parts {
			clear(l[:cap(l)])
		}
		for _, b := range bytes {
			sample.Spoil(b)
		}
		if !value.Same(third, want) {
			t.Error(s, "hangs on the expression")
		}
	}
}

// inner is all lists, dicts, records and bytes in a value, those within first.
func inner(v any) []any {
	var l []any
	switch x := v.(type) {
	case api.List:
		for _, part := range x {
			l = append(l, inner(part)...)
		}
	case api.Dict:
		for _, f := range x {
			l = append(l, inner(f.Value)...)
		}
	case *api.Record:
		for _, f := range x.Fields {
			l = append(l, inner(f.Value)...)
		}
	case []byte:
	default:
		return nil
	}
	return append(l, v)
}

// Memory: no two lists, records or bytes of one answer are shared.
func TestAnswerApartWithin(t *testing.T) {
	for _, s := range askings() {
		answer, _, _ := query.Eval(parsed(t, s), rich())
		var bytes [][]byte
		for _, part := range inner(answer) {
			if b, is := part.([]byte); is {
				bytes = append(bytes, b)
			}
		}
		for i, b := range bytes {
			for j := range b[:cap(b)] {
				b[:cap(b)][j] = byte(i)
			}
		}
		for i, b := range bytes {
			if slices.ContainsFunc(b, func(c byte) bool { return c != byte(i) }) {
				t.Error(s, i, "shares its bytes")
			}
		}
		if l, is := answer.(api.List); is {
			if i, ok := sample.Apart(l...); !ok {
				t.Error(s, i, "is shared")
			}
		}
	}
}

// Memory: names are nobody else's.
func TestNamesApart(t *testing.T) {
	e := parsed(t, "[c, b, a, self.d]")
	first, second := query.Names(e), query.Names(e)
	first = first[:cap(first)]
	for i := range first {
		first[i] = "spoilt"
	}
	if want := []string{"a", "b", "c", "d"}; !slices.Equal(second, want) || !slices.Equal(query.Names(e), want) {
		t.Error(second, query.Names(e))
	}
}
