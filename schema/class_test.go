package schema_test

import (
	"fmt"
	"strings"
	"testing"

	"tenon/api"
	"tenon/sample"
	"tenon/schema"
)

// written is classes and their text.
type written struct {
	s string
	l []api.Class
}

func classTexts() []written {
	integer, text, null, any := sample.OfKind(api.KInt), sample.OfKind(api.KText), sample.OfKind(api.KNil), sample.AnyValue()
	long := strings.Repeat("n", api.MaxName)
	return []written{
		{"", nil},
		{"class a 1 {\n}\n", []api.Class{class("a", 1)}},
		{"class a 1 abstract {\n}\n", []api.Class{abstract(class("a", 1))}},
		{"class b 2 : a 10 {\n}\n", []api.Class{child("b", 2, "a", 10)}},
		{"class b 2 : a 1000 abstract {\n  x: any\n}\n", []api.Class{abstract(child("b", 2, "a", 1000, field("x", any)))}},
		{"class " + long + " 1000 : " + long + " 1000 {\n  " + long + ": of " + long + " was " + long + "\n}\n", []api.Class{child(long, 1000, long, 1000, was(field(long, sample.OfClass(long)), long))}},
		{"class person 1 {\n  age: int = 0\n  name: text\n}\nclass student 1 : person 1 {\n  school: text | nil = nil\n}\n", []api.Class{class("person", 1, with(field("age", integer), int64(0)), field("name", text)), child("student", 1, "person", 1, with(field("school", sample.Union(text, null)), nil))}},
		{"class a 2 {\n  b: int was a\n  c: int = 3 was d\n}\n", []api.Class{class("a", 2, was(field("b", integer), "a"), was(with(field("c", integer), int64(3)), "d"))}},
		{"class class 1 : abstract 1 abstract {\n  abstract: any = nil\n  class: of class was class\n  was: of was was was\n}\n", []api.Class{abstract(child("class", 1, "abstract", 1, some("abstract"), was(field("class", sample.OfClass("class")), "class"), was(field("was", sample.OfClass("was")), "was")))}},
		{"class a 1 {\n  a: is 3\n  b: is nil = nil\n  c: of was\n  was: is -1 = -1\n  x: is \"}\" = \"was b\" was b\n  y: any = was/1{was: nil}\n}\n", []api.Class{class("a", 1, field("a", sample.Only(int64(3))), with(field("b", sample.Only(nil)), nil), field("c", sample.OfClass("was")), with(field("was", sample.Only(int64(-1))), int64(-1)), was(with(field("x", sample.Only("}")), "was b"), "b"), with(field("y", any), sample.Record("was", 1, sample.Field("was", nil))))}},
		{"class a 1 {\n  any: any\n  int: [int] = []\n  of: {of?: of of, ...} = {}\n}\nclass a 1 {\n}\n", []api.Class{class("a", 1, field("any", any), with(field("int", sample.ListOf(integer)), api.List{}), with(field("of", sample.OpenDict("of?", sample.OfClass("of"))), api.Dict{})), class("a", 1)}},
	}
}

// P6.2: the text of classes, and the classes of that text.
func TestClassTexts(t *testing.T) {
	for _, x := range classTexts() {
		if s, e := schema.Print(x.l); s != x.s || e != api.OK {
			t.Errorf("Print: %s, %d, want %s", s, e, x.s)
		}
		mustRead(t, x.s, x.l...)
		mustRead(t, "\r\n\t "+x.s+x.s+" ", append(append([]api.Class{}, x.l...), x.l...)...)
	}
}

// P6.2: without Has the default plays no part, whatever it is.
func TestClassClutter(t *testing.T) {
	f := api.FieldOf{Name: "x", Type: sample.Cluttered(sample.DictOf("a?", sample.Only(api.List{nil}))), Default: api.Term{Kind: api.KNothing, Text: "x"}}
	g := api.FieldOf{Name: "y", Type: sample.Cluttered(sample.AnyValue()), Has: true, Default: sample.ClutteredTerm(sample.Term(api.List{true}))}
	if s, e := schema.Print([]api.Class{class("a", 1, f, g)}); s != "class a 1 {\n  x: {a?: is [nil]}\n  y: any = [true]\n}\n" || e != api.OK {
		t.Error(s, e)
	}
}

// P6.2: Print: the error of the first class that can't be, and no text.
func TestPrintWrong(t *testing.T) {
	good := class("a", 1, some("a"))
	for _, x := range sample.WrongClasses() {
		for _, l := range [][]api.Class{{x.C}, {good, x.C}, {x.C, good}, {good, x.C, api.Class{}}, {good, x.C, class("a", 0)}} {
			if s, e := schema.Print(l); s != "" || e != x.Why {
				t.Errorf("%s: %s, %d, want %d", x.Name, short(s), e, x.Why)
			}
		}
	}
	if s, e := schema.Print([]api.Class{good, class("a", 1, someFields(0, api.MaxItems)...)}); e != api.OK || strings.Count(s, "\n") != 3+4098 {
		t.Error(len(s), e)
	}
}

// Section 6.2: blanks of each sort, several and, but between words, none, wherever they may stand.
func TestClassBlanks(t *testing.T) {
	tokens := []string{"class", " ", "a", " ", "1", ":", "b", " ", "2", "abstract", "{", "a", ":", "int", "=", "3", " ", "was", " ", "b", ";", "b", ":", "[", "int", "]", "c", ":", "{", "}", "=", "{", "}", ";", ";", ";", "d", ":", "is", "[1]", "was", " ", "e", " ", "was", ":", "any", ";", "}", "class", " ", "c", " ", "3", "{", "}"}
	want := []api.Class{abstract(child("a", 1, "b", 2, was(with(field("a", sample.OfKind(api.KInt)), int64(3)), "b"), field("b", sample.ListOf(sample.OfKind(api.KInt))), with(field("c", sample.DictOf()), api.Dict{}), was(field("d", sample.Only(api.List{int64(1)})), "e"), field("was", sample.AnyValue()))), class("c", 3)}
	for _, blanks := range []string{"", " ", "\t", "\n", "\r", " \t\n\r", "    "} {
		mustRead(t, blanks+strings.Join(tokens, blanks)+blanks, want...)
		for i := range tokens {
			mustRead(t, strings.Join(tokens[:i], "")+blanks+strings.Join(tokens[i:], ""), want...)
		}
	}
	for _, s := range []string{"", " ", "\n\n", " \t\r\n"} {
		mustRead(t, s)
	}
	mustRefuse(t, fault{"\v", 0, api.ErrForm}, fault{" \f", 1, api.ErrForm}, fault{"class a 1 {}\x00", 12, api.ErrForm}, fault{"class\va 1 {}", 5, api.ErrForm})
}

// P6.2: a class's head, from left to right.
func TestClassHead(t *testing.T) {
	long := strings.Repeat("a", api.MaxName+1)
	mustRefuse(t,
		fault{"a", 0, api.ErrForm}, fault{" clas a 1 {}", 1, api.ErrForm}, fault{"classes a 1 {}", 0, api.ErrForm}, fault{"class_ a 1 {}", 0, api.ErrForm}, fault{"classa 1 {}", 0, api.ErrForm}, fault{"Class a 1 {}", 0, api.ErrForm}, fault{"{}", 0, api.ErrForm}, fault{";", 0, api.ErrForm}, fault{"1", 0, api.ErrForm}, fault{"abstract class a 1 {}", 0, api.ErrForm}, fault{"class a 1 {} ; class b 1 {}", 13, api.ErrForm}, fault{"class a 1 {} }", 13, api.ErrForm}, fault{"class a 1 {} b 1 {}", 13, api.ErrForm}, fault{"class a 1 {} cl", 13, api.ErrForm},
		fault{"class", 5, api.ErrShort}, fault{"class ", 6, api.ErrShort}, fault{"class {", 6, api.ErrForm}, fault{"class A 1 {}", 6, api.ErrForm}, fault{"class : b 1 {}", 6, api.ErrForm}, fault{"class 1 {}", 6, api.ErrName}, fault{"class _a 1 {}", 6, api.ErrName}, fault{"class " + long + " 1 {}", 6, api.ErrName}, fault{"class 9", 6, api.ErrName},
		fault{"class a", 7, api.ErrShort}, fault{"class a ", 8, api.ErrShort}, fault{"class a {}", 8, api.ErrForm}, fault{"class a b {}", 8, api.ErrForm}, fault{"class a -1 {}", 8, api.ErrForm}, fault{"class a1 {}", 9, api.ErrForm}, fault{"class a/1 {}", 7, api.ErrForm}, fault{"class a 01 {}", 8, api.ErrForm}, fault{"class a 00 {}", 8, api.ErrForm}, fault{"class a 0001000", 8, api.ErrForm}, fault{"class a 0 {}", 8, api.ErrArg}, fault{"class a 1001 {}", 8, api.ErrArg}, fault{"class a 9223372036854775808", 8, api.ErrArg}, fault{"class a 18446744073709551617 {}", 8, api.ErrArg}, fault{"class a 1" + strings.Repeat("0", 400) + " ?", 8, api.ErrArg},
		fault{"class a 1", 9, api.ErrShort}, fault{"class a 1 ", 10, api.ErrShort}, fault{"class a 1b {}", 9, api.ErrForm}, fault{"class a 1.0 {}", 9, api.ErrForm}, fault{"class a 1 2 {}", 10, api.ErrForm}, fault{"class a 1 b {}", 10, api.ErrForm}, fault{"class a 1 (", 10, api.ErrForm}, fault{"class a 1 }", 10, api.ErrForm}, fault{"class a 1 = {}", 10, api.ErrForm}, fault{"class a 1 abstrac {}", 10, api.ErrForm}, fault{"class a 1 abstracts {}", 10, api.ErrForm}, fault{"class a 1 class", 10, api.ErrForm},
		fault{"class a 1 :", 11, api.ErrShort}, fault{"class a 1 : {}", 12, api.ErrForm}, fault{"class a 1 : 1 {}", 12, api.ErrName}, fault{"class a 1 : " + long, 12, api.ErrName}, fault{"class a 1 : b", 13, api.ErrShort}, fault{"class a 1 : b {}", 14, api.ErrForm}, fault{"class a 1 : b c", 14, api.ErrForm}, fault{"class a 1 : b 02", 14, api.ErrForm}, fault{"class a 1 : b 0", 14, api.ErrArg}, fault{"class a 1 : b 1001", 14, api.ErrArg}, fault{"class a 1 : b 2", 15, api.ErrShort}, fault{"class a 1 : b 2 : c 1 {}", 16, api.ErrForm}, fault{"class a 1 : b 2 c {}", 16, api.ErrForm},
		fault{"class a 1 abstract", 18, api.ErrShort}, fault{"class a 1 abstract abstract {}", 19, api.ErrForm}, fault{"class a 1 abstract : b 1 {}", 19, api.ErrForm}, fault{"class a 1 abstract }", 19, api.ErrForm}, fault{"class a 1 : b 2 abstract", 24, api.ErrShort},
	)
	mustRead(t, "class a 1abstract{}", abstract(class("a", 1)))
	mustRead(t, "class a 1:b 1000abstract{}", abstract(child("a", 1, "b", 1000)))
	mustRead(t, "class abstract 1 { }", class("abstract", 1))
	mustRead(t, "class abstract 1 abstract { }class class 2:class 1{}", abstract(class("abstract", 1)), child("class", 2, "class", 1))
}

// mustRefuseBody is of texts behind "class a 1 {", with places in them.
func mustRefuseBody(t *testing.T, all ...fault) {
	t.Helper()
	for _, x := range all {
		mustRefuse(t, fault{"class a 1 {" + x.s, 11 + x.at, x.why}, fault{"class b 1 { a: int; } class a 1 {" + x.s, 33 + x.at, x.why})
	}
}

// P6.2: fields, from left to right.
func TestClassFields(t *testing.T) {
	mustRefuseBody(t,
		fault{"", 0, api.ErrShort}, fault{" ", 1, api.ErrShort}, fault{"; a: int }", 0, api.ErrForm}, fault{"]", 0, api.ErrForm}, fault{"=", 0, api.ErrForm}, fault{": int", 0, api.ErrForm}, fault{"A: int }", 0, api.ErrForm}, fault{"? }", 0, api.ErrForm}, fault{"1: int }", 0, api.ErrName}, fault{"_", 0, api.ErrName}, fault{strings.Repeat("a", 33) + ": int", 0, api.ErrName},
		fault{"a", 1, api.ErrShort}, fault{"a ", 2, api.ErrShort}, fault{"a }", 2, api.ErrForm}, fault{"a int }", 2, api.ErrForm}, fault{"a?: int }", 1, api.ErrForm}, fault{"a = 3 }", 2, api.ErrForm}, fault{"a; }", 1, api.ErrForm},
		fault{"a:", 2, api.ErrShort}, fault{"a: }", 3, api.ErrForm}, fault{"a: ; }", 3, api.ErrForm}, fault{"a: = 3 }", 3, api.ErrForm}, fault{"a: integer }", 3, api.ErrForm}, fault{"a: Int }", 3, api.ErrForm}, fault{"a: class }", 3, api.ErrForm}, fault{"a: abstract }", 3, api.ErrForm}, fault{"a: was b }", 3, api.ErrForm}, fault{"a: int | }", 9, api.ErrForm}, fault{"a: int | was b }", 9, api.ErrForm}, fault{"a: int | class }", 9, api.ErrForm}, fault{"a: [int }", 8, api.ErrForm}, fault{"a: (int", 7, api.ErrShort}, fault{"a: {b: int, a: int} }", 12, api.ErrName}, fault{"a: of }", 6, api.ErrForm}, fault{"a: of 9 }", 6, api.ErrName}, fault{"a: of", 5, api.ErrShort}, fault{"a: is }", 6, api.ErrForm}, fault{"a: is", 5, api.ErrShort}, fault{"a: is [1,, }", 9, api.ErrForm}, fault{"a: is b/0{} }", 8, api.ErrArg},
		fault{"a: int", 6, api.ErrShort}, fault{"a: int ", 7, api.ErrShort}, fault{"a: int, b: int }", 6, api.ErrForm}, fault{"a: int ]", 7, api.ErrForm}, fault{"a: int : int }", 7, api.ErrForm}, fault{"a: int? }", 6, api.ErrForm}, fault{"a: int text }", 12, api.ErrForm}, fault{"a: int 9", 7, api.ErrName}, fault{"a: int;", 7, api.ErrShort}, fault{"a: int;;;", 9, api.ErrShort}, fault{"a: int; = 3 }", 8, api.ErrForm}, fault{"a: int; was b }", 12, api.ErrForm}, fault{"a: int; was }", 12, api.ErrForm},
		fault{"a: int =", 8, api.ErrShort}, fault{"a: int = }", 9, api.ErrForm}, fault{"a: int = ; }", 9, api.ErrForm}, fault{"a: int = int }", 9, api.ErrForm}, fault{"a: int = was b }", 9, api.ErrForm}, fault{"a: int == 3 }", 8, api.ErrForm}, fault{"a: int = 03 }", 9, api.ErrForm}, fault{"a: int = 3was b }", 9, api.ErrForm}, fault{"a: int = [1, }", 13, api.ErrForm}, fault{"a: int = [1", 11, api.ErrShort}, fault{"a: int = {b: 1, a: 1} }", 16, api.ErrName}, fault{"a: int = c/1001{}", 11, api.ErrArg}, fault{"a: int = 3 = 4 }", 11, api.ErrForm}, fault{"a: int = 3", 10, api.ErrShort}, fault{`a: int = "` + strings.Repeat("x", api.MaxText+1) + `" }`, 9, api.ErrLong}, fault{"a: int = 3 4 }", 11, api.ErrName}, fault{"a: int = 3 | 4 }", 11, api.ErrForm},
		fault{"a: int was", 10, api.ErrShort}, fault{"a: int was ", 11, api.ErrShort}, fault{"a: int was }", 11, api.ErrForm}, fault{"a: int was; }", 10, api.ErrForm}, fault{"a: int was 9 }", 11, api.ErrName}, fault{"a: int was " + strings.Repeat("b", 33), 11, api.ErrName}, fault{"a: int was B }", 11, api.ErrForm}, fault{"a: int was b", 12, api.ErrShort}, fault{"a: int was b = 3 }", 13, api.ErrForm}, fault{"a: int was b: int }", 12, api.ErrForm}, fault{"a: int was b was c }", 17, api.ErrForm}, fault{"a: int was was: int }", 14, api.ErrForm}, fault{"a: int was b | text }", 13, api.ErrForm},
		fault{"a: int a: int }", 7, api.ErrName}, fault{"b: int a: int }", 7, api.ErrName}, fault{"b: int; a", 8, api.ErrName}, fault{"x: int was: int }", 7, api.ErrName}, fault{"x: int was : int }", 7, api.ErrName}, fault{"b: int = 3 was c; aa: text }", 18, api.ErrName}, fault{"a: int b: text", 14, api.ErrShort},
	)
}

// P6.2: what ends a field's type, and which word was is a further field's name.
func TestClassFieldEnds(t *testing.T) {
	integer, any := sample.OfKind(api.KInt), sample.AnyValue()
	for s, want := range map[string][]api.FieldOf{
		"a: int b: any": {field("a", integer), field("b", any)}, "a: int; b: any;": {field("a", integer), field("b", any)}, "a: int;;b: any;;;": {field("a", integer), field("b", any)}, "a:int b:any": {field("a", integer), field("b", any)},
		"a: int class: any": {field("a", integer), field("class", any)}, "a: int abstract: any": {field("a", integer), field("abstract", any)}, "a: int was: any": {field("a", integer), field("was", any)}, "a: int was : any": {field("a", integer), field("was", any)}, "a: int was\n:any": {field("a", integer), field("was", any)}, "a: int; was: any": {field("a", integer), field("was", any)}, "was: any": {field("was", any)},
		"a: int int: any": {field("a", integer), field("int", any)}, "a: of b of: of c": {field("a", sample.OfClass("b")), field("of", sample.OfClass("c"))}, "a: is nil is: is 3": {field("a", sample.Only(nil)), field("is", sample.Only(int64(3)))},
		"a: int was b": {was(field("a", integer), "b")}, "a: int was was": {was(field("a", integer), "was")}, "a: int was was was: any": {was(field("a", integer), "was"), field("was", any)}, "a: int was b was: any was c": {was(field("a", integer), "b"), was(field("was", any), "c")}, "a: int was b c: any": {was(field("a", integer), "b"), field("c", any)}, "a: int was a": {was(field("a", integer), "a")}, "a: of was was was": {was(field("a", sample.OfClass("was")), "was")}, "a: of was was: any": {field("a", sample.OfClass("was")), field("was", any)},
		"a: int = 3 was: any": {with(field("a", integer), int64(3)), field("was", any)}, "a: int = 3 was b": {was(with(field("a", integer), int64(3)), "b")}, "a: int = nil b: any": {with(field("a", integer), nil), field("b", any)}, `a: int = "x"b: any`: {with(field("a", integer), "x"), field("b", any)}, "a: int=[]was b": {was(with(field("a", integer), api.List{}), "b")}, "a: int = b/1{} b: any": {with(field("a", integer), sample.Record("b", 1)), field("b", any)}, "a: is 3 = 3": {with(field("a", sample.Only(int64(3))), int64(3))}, "a: is {}={}": {with(field("a", sample.Only(api.Dict{})), api.Dict{})},
		"a: int | any b: any": {field("a", sample.Union(integer, any)), field("b", any)}, "a: (int) | [any]b: any": {field("a", sample.Union(integer, sample.ListOf(any))), field("b", any)},
	} {
		mustRead(t, "class a 1 {"+s+"}", class("a", 1, want...))
		mustRead(t, "class a 1 { "+s+" } class b 1 {"+s+";}", class("a", 1, want...), class("b", 1, want...))
	}
}

// bodyText is the text of n fields.
func bodyText(n int) string {
	var b strings.Builder
	for i := range n {
		fmt.Fprintf(&b, "f%06d: any = nil\n", i)
	}
	return b.String()
}

// P6.2: MaxItems fields and one more, which is told at its name: behind whether it is a name, ahead of whether it rises.
func TestClassManyFields(t *testing.T) {
	most := bodyText(api.MaxItems)
	mustRead(t, "class a 1 {"+most+"}", class("a", 1, someFields(0, api.MaxItems)...))
	mustRead(t, "class a 1 {"+most+"} class b 1 {"+most+"}", class("a", 1, someFields(0, api.MaxItems)...), class("b", 1, someFields(0, api.MaxItems)...))
	mustRefuseBody(t, fault{most + "g: any }", len(most), api.ErrLong}, fault{most + "g", len(most), api.ErrLong}, fault{most + "a: any", len(most), api.ErrLong}, fault{most + "9: any", len(most), api.ErrName}, fault{most, len(most), api.ErrShort}, fault{most + "G", len(most), api.ErrForm})
}

// P6.2: a field's type that can't be is told at its first byte, ahead of what stands behind it; its brackets alone count.
func TestClassDeepTypes(t *testing.T) {
	deep := func(n int) string { return strings.Repeat("[", n) + "any" + strings.Repeat("]", n) }
	many := func(n int) string { return strings.Repeat("any|", n-2) + "any" }
	mustRead(t, "class a 1 { a: "+deep(63)+" b: "+strings.Repeat("(", 64)+"any"+strings.Repeat(")", 64)+"}", class("a", 1, field("a", sample.ListsOf(64, sample.AnyValue())), field("b", sample.AnyValue())))
	if l := read(t, "class a 1 { a: "+many(api.MaxNodes)+" b: "+many(api.MaxNodes)+"}"); len(l[0].Fields[1].Type.Parts) != api.MaxNodes-1 {
		t.Error("each type has room for so many")
	}
	mustRefuseBody(t, fault{"a: int b:  " + deep(64) + " = }", 11, api.ErrLong}, fault{"a: " + deep(64), 3, api.ErrLong}, fault{"a: " + many(api.MaxNodes+1) + " ?", 3, api.ErrLong}, fault{"a: " + strings.Repeat("(", 65), 67, api.ErrLong}, fault{"a: " + many(api.MaxNodes+1) + "| }", 3 + 4*api.MaxNodes + 1, api.ErrForm})
}

// The chapter's example.
func TestClassExample(t *testing.T) {
	mustRead(t, "class person 1 { age: int = 0 name: text }", class("person", 1, with(field("age", sample.OfKind(api.KInt)), int64(0)), field("name", sample.OfKind(api.KText))))
}
