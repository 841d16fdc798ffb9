package sample

import (
	"math"
	"strconv"
	"strings"

	"tenon/api"
	"tenon/value"
)

// AnyValue is the type of all values.
func AnyValue() api.Type { return api.Type{Kind: api.TAny} }

// NoValue is the type of none.
func NoValue() api.Type { return api.Type{Kind: api.TNone} }

// OfKind is the type of the values of a kind.
func OfKind(kind int) api.Type { return api.Type{Kind: api.TKind, Of: kind} }

// Only is the type of a value alone, which can be.
func Only(v any) api.Type { return api.Type{Kind: api.TOnly, Only: Term(v)} }

// ListOf is the type of lists of a type's values.
func ListOf(t api.Type) api.Type { return api.Type{Kind: api.TList, Parts: []api.Type{t}} }

// Union is the type of the values of several types.
func Union(parts ...api.Type) api.Type { return api.Type{Kind: api.TUnion, Parts: parts} }

// OfClass is the type of records of a class.
func OfClass(name string) api.Type { return api.Type{Kind: api.TRecord, Class: name} }

// DictOf is the type of dicts with those fields alone, of names and types by turns; a ? behind a name says that it may be missing.
func DictOf(fields ...any) api.Type {
	t := api.Type{Kind: api.TDict}
	for i := 0; i < len(fields); i += 2 {
		name, _ := fields[i].(string)
		part, _ := fields[i+1].(api.Type)
		bare, lacks := strings.CutSuffix(name, "?")
		t.Names, t.Lacks, t.Parts = append(t.Names, bare), append(t.Lacks, lacks), append(t.Parts, part)
	}
	return t
}

// OpenDict is likewise of dicts that may have other fields, too.
func OpenDict(fields ...any) api.Type {
	t := DictOf(fields...)
	t.Open = true
	return t
}

// Term is the term of a value that can be.
func Term(v any) api.Term {
	t, _ := value.Plain(v)
	return t
}

// ListsOf lays a type so deep into lists that it lies at that depth.
func ListsOf(depth int, t api.Type) api.Type {
	for range depth - 1 {
		t = ListOf(t)
	}
	return t
}

// TypesWithin does likewise with lists, dicts and unions by turns.
func TypesWithin(depth int, t api.Type) api.Type {
	for i := range depth - 1 {
		switch i % 3 {
		case 0:
			t = Union(AnyValue(), t)
		case 1:
			t = ListOf(t)
		case 2:
			t = DictOf("a", t)
		}
	}
	return t
}

// UnionsOf is a union of unions that has that many types in all, which is above 5000 and below 20000, itself among them.
func UnionsOf(n int) api.Type {
	first, second := make([]api.Type, 4000), make([]api.Type, n-4003)
	for i := range first {
		first[i] = OfKind(1 + i%10)
	}
	for i := range second {
		second[i] = NoValue()
	}
	return Union(Union(first...), Union(second...))
}

// ManyFields is a dict's type with n names.
func ManyFields(n int) api.Type {
	t := api.Type{Kind: api.TDict, Names: make([]string, n), Lacks: make([]bool, n), Parts: make([]api.Type, n)}
	for i := range n {
		t.Names[i], t.Lacks[i], t.Parts[i] = "f"+strconv.Itoa(10000+i), i%3 == 0, AnyValue()
	}
	return t
}

// TypeRing is a type that holds itself.
func TypeRing(kind int) api.Type {
	parts := make([]api.Type, 2)
	ring := api.Type{Kind: kind, Parts: parts, Names: []string{"a", "b"}, Lacks: []bool{false, true}}
	parts[0], parts[1] = ring, ring
	return ring
}

// TypesDoubled is a union of two unions of two unions and so on, all of them in little memory.
func TypesDoubled(levels int) api.Type {
	t := AnyValue()
	for range levels {
		t = Union(t, t)
	}
	return t
}

// Types is types that can be, with the limits themselves among them.
func Types() []api.Type {
	l := []api.Type{
		AnyValue(), NoValue(), OfClass("a"), OfClass("of"), OfClass(strings.Repeat("n", api.MaxName)),
		ListOf(AnyValue()), ListOf(ListOf(NoValue())), ListOf(Union(OfKind(api.KInt), OfKind(api.KText))),
		DictOf(), OpenDict(), DictOf("a", OfKind(api.KInt)), OpenDict("a", OfKind(api.KInt), "b?", Only(int64(3))), DictOf("a?", Union(AnyValue(), NoValue()), "a0", ListOf(AnyValue()), "a_", DictOf(), "aa?", OpenDict("any", AnyValue())),
		Union(OfKind(api.KInt), OfKind(api.KInt)), Union(Union(OfKind(api.KInt), OfKind(api.KNil)), OfKind(api.KText)), Union(AnyValue(), Union(AnyValue(), Union(AnyValue(), NoValue())), AnyValue()), Union(OfClass("a"), Only("a"), ListOf(AnyValue()), DictOf()),
		Only(api.Dict{Field("a", api.List{MinusZero(), math.NaN(), []byte{1}, Record("c", 2, Field("x", api.Ref(7)))})}),
		ListsOf(api.MaxDepth, AnyValue()), TypesWithin(api.MaxDepth, Only(nil)), UnionsOf(api.MaxNodes), ManyFields(api.MaxItems),
	}
	for kind := api.KNil; kind <= api.KRecord; kind++ {
		l = append(l, OfKind(kind))
	}
	for _, v := range Rising() {
		l = append(l, Only(v))
	}
	return l
}

// WrongType is a type that can't be.
type WrongType struct {
	Name string
	T    api.Type
}

// WrongTypes is what can't be: each rule broken by itself, each limit by one.
func WrongTypes() []WrongType {
	one, two := []api.Type{AnyValue()}, []api.Type{AnyValue(), AnyValue()}
	l := []WrongType{
		{"zero", api.Type{}}, {"kind below", api.Type{Kind: -1}}, {"kind beyond", api.Type{Kind: api.TRecord + 1, Class: "a", Parts: one}},
		{"of no kind", OfKind(api.KAlien)}, {"of nothing", OfKind(api.KNothing)}, {"of a kind below", OfKind(-1)},
		{"only of no kind", api.Type{Kind: api.TOnly}}, {"only nothing", api.Type{Kind: api.TOnly, Only: api.Term{Kind: api.KNothing}}}, {"only a bad record", api.Type{Kind: api.TOnly, Only: api.Term{Kind: api.KRecord, Class: "a"}}}, {"only too long", api.Type{Kind: api.TOnly, Only: api.Term{Kind: api.KText, Text: strings.Repeat("x", api.MaxText+1)}}},
		{"list of none", api.Type{Kind: api.TList}}, {"list of two", api.Type{Kind: api.TList, Parts: two}},
		{"union of none", Union()}, {"union of one", Union(AnyValue())},
		{"dict with a part more", api.Type{Kind: api.TDict, Parts: one}}, {"dict with a part less", api.Type{Kind: api.TDict, Names: []string{"a"}, Lacks: []bool{true}}}, {"dict with a lack more", api.Type{Kind: api.TDict, Lacks: []bool{true}}}, {"dict with a lack less", api.Type{Kind: api.TDict, Names: []string{"a"}, Parts: one}},
		{"names alike", DictOf("a", AnyValue(), "a", AnyValue())}, {"names falling", DictOf("b", AnyValue(), "a", AnyValue())}, {"too many names", ManyFields(api.MaxItems + 1)},
		{"too deep", ListsOf(api.MaxDepth+1, AnyValue())}, {"too deep by turns", TypesWithin(api.MaxDepth+1, AnyValue())}, {"too many", UnionsOf(api.MaxNodes + 1)}, {"doubled", TypesDoubled(40)},
		{"list ring", listRing()}, {"dict ring", TypeRing(api.TDict)}, {"union ring", TypeRing(api.TUnion)},
		{"wrong in a list", ListOf(api.Type{})}, {"wrong in a dict", DictOf("a", AnyValue(), "b", OfKind(0))}, {"wrong in a union", Union(AnyValue(), AnyValue(), Union())}, {"wrong term within", DictOf("a", ListOf(Union(AnyValue(), api.Type{Kind: api.TOnly})))},
	}
	for _, name := range BadNames() {
		l = append(l, WrongType{"class " + name, OfClass(name)}, WrongType{"name " + name, api.Type{Kind: api.TDict, Names: []string{name}, Lacks: []bool{false}, Parts: one}})
	}
	return l
}

func listRing() api.Type {
	parts := make([]api.Type, 1)
	parts[0] = api.Type{Kind: api.TList, Parts: parts}
	return parts[0]
}

// Cluttered is the same type with something in all that its kind does not use, and with spare room behind its lists.
func Cluttered(t api.Type) api.Type {
	c := api.Type{Kind: t.Kind, Of: 77, Only: api.Term{Kind: api.KNothing, Text: mark}, Parts: []api.Type{{Kind: 99}}, Names: []string{"B", "A"}, Lacks: []bool{true, true, true}, Open: true, Class: "No Name"}
	switch t.Kind {
	case api.TKind:
		c.Of = t.Of
	case api.TOnly:
		c.Only = ClutteredTerm(t.Only)
	case api.TList, api.TUnion:
		c.Parts = clutteredParts(t.Parts)
	case api.TDict:
		c.Parts, c.Open = clutteredParts(t.Parts), t.Open
		c.Names = append(append(make([]string, 0, len(t.Names)+2), t.Names...), mark, mark)[:len(t.Names)]
		c.Lacks = append(append(make([]bool, 0, len(t.Lacks)+2), t.Lacks...), true, true)[:len(t.Lacks)]
	case api.TRecord:
		c.Class = t.Class
	}
	return c
}

func clutteredParts(l []api.Type) []api.Type {
	c := make([]api.Type, 0, len(l)+2)
	for _, t := range l {
		c = append(c, Cluttered(t))
	}
	return append(c, AnyValue(), AnyValue())[:len(l)]
}

// ClutteredTerm is likewise of a term, of its own fields and those of its parts.
func ClutteredTerm(t api.Term) api.Term {
	wrong := api.Term{Kind: 99, Text: mark}
	return Littered(t, api.Term{Bool: true, Int: 77, Float: math.NaN(), Text: mark, Bytes: []byte(mark), Ref: 77, List: []api.Term{wrong}, Fields: []api.Entry{{Name: mark, Value: wrong}}, Class: mark, Version: -1})
}

// Littered is the same term, which has in all fields that its kind does not use what stands there in the other one, and its parts likewise.
func Littered(t, litter api.Term) api.Term {
	c := litter
	c.Kind = t.Kind
	switch t.Kind {
	case api.KBool:
		c.Bool = t.Bool
	case api.KInt:
		c.Int = t.Int
	case api.KFloat:
		c.Float = t.Float
	case api.KText:
		c.Text = t.Text
	case api.KBytes:
		c.Bytes = append(append(make([]byte, 0, len(t.Bytes)+2), t.Bytes...), 1, 2)[:len(t.Bytes)]
	case api.KRef:
		c.Ref = t.Ref
	case api.KList:
		c.List = make([]api.Term, 0, len(t.List)+1)
		for _, part := range t.List {
			c.List = append(c.List, Littered(part, litter))
		}
	case api.KDict, api.KRecord:
		c.Fields = make([]api.Entry, 0, len(t.Fields)+1)
		for _, x := range t.Fields {
			c.Fields = append(c.Fields, api.Entry{Name: x.Name, Value: Littered(x.Value, litter)})
		}
	}
	if t.Kind == api.KRecord {
		c.Class, c.Version = t.Class, t.Version
	}
	return c
}

// AnyhowType is a type, not deeper than that, by a pick of numbers from 0 up to another one.
func AnyhowType(pick func(int) int, depth int) api.Type {
	n := 8
	if depth <= 1 {
		n = 5
	}
	switch pick(n) {
	case 0:
		return AnyValue()
	case 1:
		return NoValue()
	case 2:
		return OfKind(1 + pick(10))
	case 3:
		return Only(Anyhow(pick, 3))
	case 4:
		return OfClass([]string{"a", "was", "class", "any"}[pick(4)])
	case 5:
		return ListOf(AnyhowType(pick, depth-1))
	case 6:
		parts := make([]api.Type, 2+pick(2))
		for i := range parts {
			parts[i] = AnyhowType(pick, depth-1)
		}
		return Union(parts...)
	}
	fields := []any{}
	for _, name := range []string{"a", "b?", "is", "was?"} {
		if pick(2) == 0 {
			fields = append(fields, name, AnyhowType(pick, depth-1))
		}
	}
	t := DictOf(fields...)
	t.Open = pick(2) == 0
	return t
}
