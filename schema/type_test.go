package schema_test

import (
	"fmt"
	"math"
	"runtime"
	"strings"
	"testing"

	"tenon/api"
	"tenon/sample"
	"tenon/schema"
	"tenon/value"
)

// said is a type and its text.
type said struct {
	t api.Type
	s string
}

func typeTexts() []said {
	any, none, integer, text, null := sample.AnyValue(), sample.NoValue(), sample.OfKind(api.KInt), sample.OfKind(api.KText), sample.OfKind(api.KNil)
	list, dict, open, union := sample.ListOf, sample.DictOf, sample.OpenDict, sample.Union
	return []said{
		{any, "any"}, {none, "none"},
		{null, "nil"}, {sample.OfKind(api.KBool), "bool"}, {integer, "int"}, {sample.OfKind(api.KFloat), "float"}, {text, "text"}, {sample.OfKind(api.KBytes), "bytes"}, {sample.OfKind(api.KRef), "ref"}, {sample.OfKind(api.KList), "list"}, {sample.OfKind(api.KDict), "dict"}, {sample.OfKind(api.KRecord), "record"},
		{sample.Only(nil), "is nil"}, {sample.Only(int64(3)), "is 3"}, {sample.Only(-1.5), "is -0x1.8p+00"}, {sample.Only("a | b\n"), `is "a | b\n"`}, {sample.Only([]byte{10}), "is #0a"}, {sample.Only(api.Ref(7)), "is @7"}, {sample.Only(api.List{true, false}), "is [true, false]"}, {sample.Only(api.Dict{sample.Field("a", nil)}), "is {a: nil}"}, {sample.Only(sample.Record("person", 2, sample.Field("age", int64(1)))), "is person/2{age: 1}"}, {sample.Only(sample.Record("any", 1)), "is any/1{}"},
		{list(any), "[any]"}, {list(list(none)), "[[none]]"}, {list(union(integer, text)), "[int | text]"}, {list(sample.Only(api.List{})), "[is []]"},
		{dict(), "{}"}, {open(), "{...}"}, {dict("a", integer), "{a: int}"}, {dict("a?", integer), "{a?: int}"}, {open("a", integer), "{a: int, ...}"}, {open("a", integer, "b?", sample.Only(int64(3))), "{a: int, b?: is 3, ...}"}, {dict("a", union(integer, null), "b?", dict("c", open()), "is", any), "{a: int | nil, b?: {c: {...}}, is: any}"},
		{union(integer, text), "int | text"}, {union(integer, integer, integer), "int | int | int"}, {union(union(integer, null), text), "(int | nil) | text"}, {union(text, union(integer, null)), "text | (int | nil)"}, {union(union(union(integer, null), text), union(any, none)), "((int | nil) | text) | (any | none)"}, {union(list(union(integer, union(text, null))), dict("a", union(any, none)), sample.Only(int64(1)), sample.OfClass("a")), "[int | (text | nil)] | {a: any | none} | is 1 | of a"},
		{sample.OfClass("person"), "of person"}, {sample.OfClass("of"), "of of"}, {sample.OfClass("any"), "of any"}, {sample.OfClass("was"), "of was"}, {sample.OfClass("class"), "of class"}, {sample.OfClass(strings.Repeat("n", api.MaxName)), "of " + strings.Repeat("n", 32)},
	}
}

// P6.1: the text of each type, and the type of each text, with blanks around it and within other types, too.
func TestTypeTexts(t *testing.T) {
	for _, x := range typeTexts() {
		if s, e := schema.PrintType(x.t); s != x.s || e != api.OK {
			t.Errorf("PrintType: %s, %d, want %s", s, e, x.s)
		}
		if s, e := schema.PrintType(sample.Cluttered(x.t)); s != x.s || e != api.OK {
			t.Errorf("PrintType, with clutter: %s, %d, want %s", s, e, x.s)
		}
		mustReadType(t, x.s, x.t)
		mustReadType(t, " \t\r\n"+x.s+"\n \t\r", x.t)
		mustReadType(t, "("+x.s+")", x.t)
		mustReadType(t, "["+x.s+"]", sample.ListOf(x.t))
		mustReadType(t, "{a?:"+x.s+",b:"+x.s+"}", sample.DictOf("a?", x.t, "b", x.t))
		mustReadType(t, "("+x.s+")|any|("+x.s+")", sample.Union(x.t, sample.AnyValue(), x.t))
	}
}

// P6.1: floats keep their bits.
func TestTypeBits(t *testing.T) {
	for _, f := range []float64{math.NaN(), sample.Bits(0xfff8000000000123), sample.MinusZero(), 0, math.Inf(-1)} {
		s, _ := schema.PrintType(sample.Only(f))
		x, _, e := schema.ParseType(s)
		if v, _ := value.Of(x.Only); e != api.OK || !value.Same(v, f) {
			t.Error(s, e, v)
		}
	}
}

// P6.1: PrintType: no text of a type that can't be.
func TestPrintTypeWrong(t *testing.T) {
	for _, x := range sample.WrongTypes() {
		if s, e := schema.PrintType(x.T); s != "" || e != api.ErrType {
			t.Errorf("%s: %s, %d", x.Name, short(s), e)
		}
	}
}

// Section 6.1: blanks of each sort, several and none, wherever they may stand.
func TestTypeBlanks(t *testing.T) {
	tokens := []string{"{", "a", "?", ":", "[", "int", "|", "(", "is", `"x"`, "|", "any", ")", "]", ",", "b", ":", "(", "{", "}", ")", ",", "c", ":", "{", "...", "}", "|", "is", "[1]", ",", "...", "}"}
	want := sample.OpenDict("a?", sample.ListOf(sample.Union(sample.OfKind(api.KInt), sample.Union(sample.Only("x"), sample.AnyValue()))), "b", sample.DictOf(), "c", sample.Union(sample.OpenDict(), sample.Only(api.List{int64(1)})))
	for _, blanks := range []string{"", " ", "\t", "\n", "\r", " \t\n\r", "    ", "\r\n\r\n"} {
		mustReadType(t, blanks+strings.Join(tokens, blanks)+blanks, want)
		for i := range tokens {
			mustReadType(t, strings.Join(tokens[:i], "")+blanks+strings.Join(tokens[i:], ""), want)
		}
		if blanks != "" {
			mustReadType(t, "of"+blanks+"a", sample.OfClass("a"))
			mustReadType(t, "is"+blanks+"nil", sample.Only(nil))
		}
	}
	for _, blank := range []string{"\v", "\f", "\x00", "\u00a0", "\u0085", "\u2028"} {
		mustRefuseType(t, fault{blank + "int", 0, api.ErrForm}, fault{"int" + blank, 3, api.ErrMore}, fault{"[int" + blank + "]", 4, api.ErrForm})
	}
}

// Section 6.1: no blanks within a word or within the dots.
func TestTypeNoBlanks(t *testing.T) {
	mustRefuseType(t, fault{"an y", 0, api.ErrForm}, fault{"i nt", 0, api.ErrForm}, fault{"of per son", 7, api.ErrMore}, fault{"{. ..}", 1, api.ErrForm}, fault{"{.. .}", 1, api.ErrForm}, fault{"{a b: int}", 3, api.ErrForm}, fault{"is 1 0", 5, api.ErrMore})
}

// P6.1, 1: where a type must come.
func TestTypeMustCome(t *testing.T) {
	for _, s := range []string{"", "(", "[", "int|", "int |(", "{a:", "{a?:", "{a:int,b:", "[int|", "(int)|", "[{a:["} {
		for _, blanks := range []string{"", " ", " \t\r\n"} {
			mustRefuseType(t, fault{s + blanks, len(s + blanks), api.ErrShort}, fault{s + blanks + ")", len(s + blanks), api.ErrForm}, fault{s + blanks + "|int", len(s + blanks), api.ErrForm}, fault{s + blanks + "...", len(s + blanks), api.ErrForm})
		}
	}
	for c := range 256 {
		if strings.IndexByte(" \t\n\r([{abcdefghijklmnopqrstuvwxyz", byte(c)) < 0 {
			b := string([]byte{byte(c)})
			mustRefuseType(t, fault{b, 0, api.ErrForm}, fault{" " + b + "int", 1, api.ErrForm}, fault{"int | " + b, 6, api.ErrForm}, fault{"[" + b, 1, api.ErrForm})
		}
	}
}

// P6.1, 1: MaxDepth brackets of any sort may be open, and one more is told at its place, whatever would stand in it.
func TestTypeBrackets(t *testing.T) {
	const most = api.MaxDepth
	mustReadType(t, strings.Repeat("(", most)+"int"+strings.Repeat(")", most), sample.OfKind(api.KInt))
	mustReadType(t, strings.Repeat("[", most-1)+"("+"int"+")"+strings.Repeat("]", most-1), sample.ListsOf(most, sample.OfKind(api.KInt)))
	mustReadType(t, strings.Repeat("( ", most-1)+"{}"+strings.Repeat(" )", most-1), sample.DictOf())
	mustReadType(t, "("+strings.Repeat("(", most-1)+"int"+strings.Repeat(")", most-1)+"|"+strings.Repeat("(", most-1)+"any"+strings.Repeat(")", most-1)+")", sample.Union(sample.OfKind(api.KInt), sample.AnyValue()))
	for _, around := range []string{"(", "[", "{a:"} {
		ahead := strings.Repeat(around, most)
		for _, one := range []string{"(", "[", "{", "(int)", "[?", "{}"} {
			mustRefuseType(t, fault{ahead + one, len(ahead), api.ErrLong}, fault{ahead + " " + one, len(ahead) + 1, api.ErrLong}, fault{ahead + "any | " + one, len(ahead) + 6, api.ErrLong})
		}
		mustRefuseType(t, fault{ahead, len(ahead), api.ErrShort}, fault{ahead + "]", len(ahead), api.ErrForm}, fault{ahead + "integer", len(ahead), api.ErrForm})
	}
	mustRefuseType(t, fault{strings.Repeat("(", 1000), most, api.ErrLong})
	deep, _ := schema.PrintType(sample.Only(sample.Within(api.MaxDepth, nil))) // a value's brackets are its own
	mustReadType(t, "("+deep+")", sample.Only(sample.Within(api.MaxDepth, nil)))
}

// P6.1, 2: words.
func TestTypeWords(t *testing.T) {
	for _, word := range []string{"integer", "an", "anyy", "any_", "any1", "a", "i", "iss", "is_", "is3", "isnil", "off", "of_", "of1", "o", "nill", "null", "true", "false", "nan", "string", "string1", "ints", "class", "abstract", "was", "person", strings.Repeat("a", 40)} {
		mustRefuseType(t, fault{word, 0, api.ErrForm}, fault{"  " + word + "?", 2, api.ErrForm}, fault{"int | " + word, 6, api.ErrForm}, fault{"[" + word + "]", 1, api.ErrForm}, fault{"{a: " + word + "}", 4, api.ErrForm}, fault{word + " int", 0, api.ErrForm}, fault{word + "/1{}", 0, api.ErrForm})
	}
	mustRefuseType(t,
		fault{"of", 2, api.ErrShort}, fault{"of \t", 4, api.ErrShort}, fault{"[of", 3, api.ErrShort}, fault{"of (a)", 3, api.ErrForm}, fault{"of A", 3, api.ErrForm}, fault{"of | a", 3, api.ErrForm}, fault{"[of]", 3, api.ErrForm}, fault{`of "a"`, 3, api.ErrForm}, fault{"of 9a", 3, api.ErrName}, fault{"of _", 3, api.ErrName}, fault{"of  1", 4, api.ErrName}, fault{"of " + strings.Repeat("a", api.MaxName+1), 3, api.ErrName}, fault{"of a b", 5, api.ErrMore}, fault{"of aB", 4, api.ErrMore}, fault{"of a/1{}", 4, api.ErrMore},
		fault{"is", 2, api.ErrShort}, fault{"is \t", 4, api.ErrShort}, fault{"[is", 3, api.ErrShort}, fault{"[is]", 3, api.ErrForm}, fault{"is |", 3, api.ErrForm}, fault{"is int", 3, api.ErrForm}, fault{"is  [1,]", 7, api.ErrForm}, fault{"is [1", 5, api.ErrShort}, fault{"is (1)", 3, api.ErrForm}, fault{"is 01", 3, api.ErrForm}, fault{"int | is {b: 1, a: 2}", 16, api.ErrName}, fault{"is person/0{}", 10, api.ErrArg}, fault{"is person/", 10, api.ErrShort}, fault{`is "a`, 5, api.ErrShort}, fault{`[is "a\q"]`, 6, api.ErrForm}, fault{`is "` + strings.Repeat("x", api.MaxText+1) + `"`, 3, api.ErrLong}, fault{"is " + strings.Repeat("[", 65), 67, api.ErrLong}, fault{"is 1 2", 5, api.ErrMore}, fault{"is 1|", 5, api.ErrShort},
	)
}

// P6.1, 3: brackets.
func TestTypeWithinBrackets(t *testing.T) {
	mustRefuseType(t,
		fault{"[int", 4, api.ErrShort}, fault{"[int ", 5, api.ErrShort}, fault{"[int)", 4, api.ErrForm}, fault{"[int}", 4, api.ErrForm}, fault{"[int, text]", 4, api.ErrForm}, fault{"[int text]", 5, api.ErrForm}, fault{"[]", 1, api.ErrForm}, fault{"[[int]", 6, api.ErrShort}, fault{"[int?]", 4, api.ErrForm},
		fault{"(int", 4, api.ErrShort}, fault{"(int | nil ", 11, api.ErrShort}, fault{"(int]", 4, api.ErrForm}, fault{"()", 1, api.ErrForm}, fault{"((int)", 6, api.ErrShort}, fault{"(int,nil)", 4, api.ErrForm},
		fault{"{", 1, api.ErrShort}, fault{"{ ", 2, api.ErrShort}, fault{"{]", 1, api.ErrForm}, fault{"{,}", 1, api.ErrForm}, fault{"{:int}", 1, api.ErrForm}, fault{"{?: int}", 1, api.ErrForm}, fault{"{A: int}", 1, api.ErrForm}, fault{"{(a): int}", 1, api.ErrForm},
		fault{"{a", 2, api.ErrShort}, fault{"{a ", 3, api.ErrShort}, fault{"{a}", 2, api.ErrForm}, fault{"{a, b: int}", 2, api.ErrForm}, fault{"{a int}", 3, api.ErrForm}, fault{"{a = int}", 3, api.ErrForm}, fault{"{a?", 3, api.ErrShort}, fault{"{a ? ", 5, api.ErrShort}, fault{"{a??: int}", 3, api.ErrForm}, fault{"{a? int}", 4, api.ErrForm}, fault{"{a:? int}", 3, api.ErrForm}, fault{"{a:: int}", 3, api.ErrForm},
		fault{"{a: int", 7, api.ErrShort}, fault{"{a: int ", 8, api.ErrShort}, fault{"{a: int]", 7, api.ErrForm}, fault{"{a: int b: int}", 8, api.ErrForm}, fault{"{a: int; b: int}", 7, api.ErrForm}, fault{"{a: int,", 8, api.ErrShort}, fault{"{a: int, ", 9, api.ErrShort}, fault{"{a: int,}", 8, api.ErrForm}, fault{"{a: int,, b: int}", 8, api.ErrForm}, fault{"{a: int = 3}", 8, api.ErrForm},
		fault{"{9: int}", 1, api.ErrName}, fault{"{_a", 1, api.ErrName}, fault{"{" + strings.Repeat("a", api.MaxName+1), 1, api.ErrName}, fault{"{a: int, a: int}", 9, api.ErrName}, fault{"{b: int, a: int}", 9, api.ErrName}, fault{"{b: int, a", 9, api.ErrName}, fault{"{aa: int, a_: int}", 10, api.ErrName}, fault{"{b: {b: int}, a: int}", 14, api.ErrName}, fault{"{b: integer, a: int}", 4, api.ErrForm},
		fault{"{...", 4, api.ErrShort}, fault{"{... ", 5, api.ErrShort}, fault{"{..., a: int}", 4, api.ErrForm}, fault{"{...,}", 4, api.ErrForm}, fault{"{... a: int}", 5, api.ErrForm}, fault{"{....}", 4, api.ErrForm}, fault{"{...?}", 4, api.ErrForm}, fault{"{...]", 4, api.ErrForm}, fault{"{..}", 1, api.ErrForm}, fault{"{..", 1, api.ErrForm}, fault{"{.", 1, api.ErrForm}, fault{"{a: int, ..}", 9, api.ErrForm}, fault{"{a: int ...}", 8, api.ErrForm}, fault{"{a: int, ...", 12, api.ErrShort}, fault{"...", 0, api.ErrForm},
	)
}

// fieldsText is the text of a dict's type with n fields, without the closing bracket.
func fieldsText(n int) string {
	var b strings.Builder
	b.WriteString("{")
	for i := range n {
		if i > 0 {
			b.WriteString(", ")
		}
		fmt.Fprintf(&b, "f%d: any", 10000+i)
	}
	return b.String()
}

// P6.1, 3: MaxItems fields and one more, which is told at its name, ahead of what is wrong with that; the dots are no field.
func TestTypeManyFields(t *testing.T) {
	most := fieldsText(api.MaxItems)
	want := sample.ManyFields(api.MaxItems)
	clear(want.Lacks)
	mustReadType(t, most+"}", want)
	want.Open = true
	mustReadType(t, most+", ...}", want)
	for _, name := range []string{"g: any}", "g", "a: any", "9", "_"} {
		mustRefuseType(t, fault{most + ", " + name, len(most) + 2, api.ErrLong})
	}
	mustRefuseType(t, fault{most + ", ", len(most) + 2, api.ErrShort}, fault{most + ", A", len(most) + 2, api.ErrForm}, fault{most + ", }", len(most) + 2, api.ErrForm}, fault{fieldsText(api.MaxItems-1) + ", a", len(fieldsText(api.MaxItems-1)) + 2, api.ErrName})
}

// P6.1, 4: all that bars part is one union; brackets make a part of their own, or none.
func TestTypeUnions(t *testing.T) {
	a, b, c := sample.AnyValue(), sample.NoValue(), sample.OfKind(api.KNil)
	union := sample.Union
	for s, want := range map[string]api.Type{
		"any|none|nil": union(a, b, c), "(any|none|nil)": union(a, b, c), "((any|none|nil))": union(a, b, c), "(any)|(none)|(nil)": union(a, b, c),
		"(any|none)|nil": union(union(a, b), c), "((any|none))|nil": union(union(a, b), c), "any|(none|nil)": union(a, union(b, c)), "(any|none)|(none|nil)": union(union(a, b), union(b, c)), "((any|none)|nil)|any": union(union(union(a, b), c), a),
		"[any|none]|nil": union(sample.ListOf(union(a, b)), c), "[(any|none)]": sample.ListOf(union(a, b)), "{a: any|none, b: nil}|nil": union(sample.DictOf("a", union(a, b), "b", c), c),
	} {
		mustReadType(t, s, want)
	}
	mustRefuseType(t, fault{"any|", 4, api.ErrShort}, fault{"|any", 0, api.ErrForm}, fault{"any||none", 4, api.ErrForm}, fault{"any|)", 4, api.ErrForm}, fault{"(any|none)nil", 10, api.ErrMore}, fault{"any none|nil", 4, api.ErrMore}, fault{"any & none", 4, api.ErrMore}, fault{"any, none", 3, api.ErrMore})
}

// P6.1, 5: behind the whole: too deep or too many, told at the first byte, ahead of what stands behind, but behind all that is wrong within.
func TestTypeTooGreat(t *testing.T) {
	for _, x := range []struct {
		ok, long string
	}{
		{strings.Repeat("[", 63) + "any" + strings.Repeat("]", 63), strings.Repeat("[", 64) + "any" + strings.Repeat("]", 64)},
		{strings.Repeat("{a:", 63) + "any" + strings.Repeat("}", 63), strings.Repeat("{a:", 64) + "any" + strings.Repeat("}", 64)},
		{strings.Repeat("[", 62) + "any|nil" + strings.Repeat("]", 62), strings.Repeat("[", 63) + "any|nil" + strings.Repeat("]", 63)},
		{strings.Repeat("(any|", 63) + "nil" + strings.Repeat(")", 63), strings.Repeat("(any|", 64) + "nil" + strings.Repeat(")", 64)},
		{strings.Repeat("[", 32) + "any" + strings.Repeat("|nil]", 31) + "]", strings.Repeat("[", 32) + "any" + strings.Repeat("|nil]", 32)},
		{strings.Repeat("any|", api.MaxNodes-2) + "any", strings.Repeat("any|", api.MaxNodes-1) + "any"},
		{"[" + strings.Repeat("is 1|", api.MaxNodes-3) + "(nil)]", "[" + strings.Repeat("is 1|", api.MaxNodes-2) + "(nil)]"},
	} {
		if _, at, e := schema.ParseType(" " + x.ok + "\n"); at != 0 || e != api.OK {
			t.Errorf("%s: %d, %d", short(x.ok), at, e)
		}
		mustRefuseType(t, fault{x.ok + "?", len(x.ok), api.ErrMore})
		mustRefuseType(t, fault{x.long, 0, api.ErrLong}, fault{" \n" + x.long + " ", 2, api.ErrLong}, fault{x.long + " any", 0, api.ErrLong}, fault{x.long + "|", len(x.long) + 1, api.ErrShort}, fault{x.long + "|?", len(x.long) + 1, api.ErrForm})
	}
	mustRefuseType(t, fault{strings.Repeat("[", 64) + "any" + strings.Repeat("]", 63), 130, api.ErrShort}, fault{strings.Repeat("[", 64) + "any" + strings.Repeat("]", 63) + ")", 130, api.ErrForm})
	mustRefuseType(t, fault{strings.Repeat("any|", 1<<20) + "any", 0, api.ErrLong}, fault{strings.Repeat("{a: any, b: nil}|", 1<<18) + "integer", 17 << 18, api.ErrForm})
}

// P6.1, 5: of a type that has too many types not all are made: a text takes little more room than it has itself till it is refused.
func TestTypeTooGreatTakesLittle(t *testing.T) {
	var before, after runtime.MemStats
	s := strings.Repeat("any|", 1<<20) + "any"
	runtime.ReadMemStats(&before)
	mustRefuseType(t, fault{s, 0, api.ErrLong})
	runtime.ReadMemStats(&after)
	if n := after.TotalAlloc - before.TotalAlloc; n > 1<<26 {
		t.Error(n, "bytes")
	}
}

// The chapter's examples.
func TestTypeExamples(t *testing.T) {
	mustReadType(t, "[int | text]", sample.ListOf(sample.Union(sample.OfKind(api.KInt), sample.OfKind(api.KText))))
	mustReadType(t, "{a: int, b?: is 3, ...}", sample.OpenDict("a", sample.OfKind(api.KInt), "b?", sample.Only(int64(3))))
	mustReadType(t, "(int | nil) | text", sample.Union(sample.Union(sample.OfKind(api.KInt), sample.OfKind(api.KNil)), sample.OfKind(api.KText)))
	mustRefuseType(t, fault{"[int", 4, api.ErrShort}, fault{"int int", 4, api.ErrMore})
}
