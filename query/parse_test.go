package query_test

import (
	"slices"
	"strings"
	"testing"

	"tenon/api"
	"tenon/names"
	"tenon/query"
	"tenon/sample"
)

// P17.1: each row of the table, with all places.
func TestRows(t *testing.T) {
	for s, want := range map[string]string{
		"a or b": "or@2(field@0 a, field@5 b)", "a or b or c": "or@7(or@2(field@0 a, field@5 b), field@10 c)", "a or (b or c)": "or@2(field@0 a, or@8(field@6 b, field@11 c))",
		"a and b": "and@2(field@0 a, field@6 b)", "a and b and c": "and@8(and@2(field@0 a, field@6 b), field@12 c)",
		"not a": "not@0(field@4 a)", "not not a": "not@0(not@4(field@8 a))", "not(a)": "not@0(field@4 a)",
		"a = b": "=@2(field@0 a, field@4 b)", "a!=b": "!=@1(field@0 a, field@3 b)", "a<=b": "<=@1(field@0 a, field@3 b)", "a >= b": ">=@2(field@0 a, field@5 b)", "a<b": "<@1(field@0 a, field@2 b)", "a>b": ">@1(field@0 a, field@2 b)", "a in b": "in@2(field@0 a, field@5 b)", "(a)in(b)": "in@3(field@1 a, field@6 b)",
		"a is int": "is@2 int(field@0 a)", "a  is  nil": "is@3 nil(field@0 a)",
		"a + b - c": "-@6(+@2(field@0 a, field@4 b), field@8 c)", "a-b+c": "+@3(-@1(field@0 a, field@2 b), field@4 c)", "a - (b - c)": "-@2(field@0 a, -@7(field@5 b, field@9 c))",
		"a * b / c % d": "%@10(/@6(*@2(field@0 a, field@4 b), field@8 c), field@12 d)",
		"-a":            "neg@0(field@1 a)", "--a": "neg@0(neg@1(field@2 a))", "- 1": "neg@0(value@2 1)", "-1": "neg@0(value@1 1)", "a--b": "-@1(field@0 a, neg@2(field@3 b))",
		"a.b": "dot@1 b(field@0 a)", "a . b . c": "dot@6 c(dot@2 b(field@0 a))", "a[b]": "at@1(field@0 a, field@2 b)", "a [b] [c]": "at@6(at@2(field@0 a, field@3 b), field@7 c)", "a.b[c].d": "dot@6 d(at@3(dot@1 b(field@0 a), field@4 c))", "-a.b": "neg@0(dot@2 b(field@1 a))", "(-a).b": "dot@4 b(neg@1(field@2 a))", "[a].b": "dot@3 b(list@0(field@1 a))", "[a][b]": "at@3(list@0(field@1 a), field@4 b)", "len(a).b": "dot@6 b(call@0 len(field@4 a))", "a[b or c]": "at@1(field@0 a, or@4(field@2 b, field@7 c))",
		"(a)": "field@1 a", "((a))": "field@2 a", "( a )": "field@2 a",
		"nil": "value@0 nil", "true": "value@0 true", " false": "value@1 false", "0": "value@0 0", "9223372036854775807": "value@0 9223372036854775807", "0x1.8p+00": "value@0 0x1.8p+00", "0x0p+00": "value@0 0x0p+00", `"a\x00\"b"`: `value@0 "a\x00\"b"`, `""`: `value@0 ""`, "#": "value@0 #", "#00ff": "value@0 #00ff", "@0": "value@0 @0", "@18446744073709551615": "value@0 @18446744073709551615",
		"1 .a": "dot@2 a(value@0 1)", "(1).a": "dot@3 a(value@1 1)", "1[a]": "at@1(value@0 1, field@2 a)", "#0a.b": "dot@3 b(value@0 #0a)", "@7.b": "dot@2 b(value@0 @7)", `"x".b`: `dot@3 b(value@0 "x")`, "true.b": "dot@4 b(value@0 true)", "nil/1": "/@3(value@0 nil, value@4 1)", "true/true": "/@4(value@0 true, value@5 true)", "#0ain b": "in@3(value@0 #0a, field@6 b)", "@1or b": "or@2(value@0 @1, field@5 b)", `"x"in"y"`: `in@3(value@0 "x", value@5 "y")`,
		"self": "self@0", "self.a": "dot@4 a(self@0)", "a": "field@0 a", "a_1": "field@0 a_1",
		"[]": "list@0", "[ ]": "list@0", "[a]": "list@0(field@1 a)", "[a, b,c]": "list@0(field@1 a, field@4 b, field@6 c)", "[[], [a]]": "list@0(list@1, list@5(field@6 a))", "[a or b]": "list@0(or@3(field@1 a, field@6 b))",
		"len(a)": "call@0 len(field@4 a)", "len ( a )": "call@0 len(field@6 a)", "has(a, b)": "call@0 has(field@4 a, field@7 b)", "any(a,self)": "call@0 any(field@4 a, self@6)", "map(a, not b)": "call@0 map(field@4 a, not@7(field@11 b))",
		"age >= 18 and name != \"ann\"": `and@10(>=@4(field@0 age, value@7 18), !=@19(field@14 name, value@22 "ann"))`,
	} {
		mustRead(t, s, want)
	}
}

// P17.1: names, kinds' words, functions.
func TestWords(t *testing.T) {
	for _, name := range append(sample.GoodNames(), otherWords()...) {
		mustBe(t, name, sample.Asked(name))
		mustBe(t, "("+name+")", sample.Asked(name))
		mustBe(t, name+"=1", sample.Expr("=", sample.Asked(name), sample.Fixed(int64(1))))
		mustBe(t, "a."+name, sample.ExprOf("dot", name, sample.Asked("a")))
	}
	for _, word := range reserved() {
		mustBe(t, "a . "+word, sample.ExprOf("dot", word, sample.Asked("a")))
		for _, near := range []string{word + "s", word + "1", word + "_", "x" + word} {
			mustBe(t, near, sample.Asked(near))
		}
	}
	for _, word := range kindWords() {
		mustBe(t, "a is "+word, sample.ExprOf("is", word, sample.Asked("a")))
		mustNotRead(t, "a is "+word+"s", 5, api.ErrWord)
		mustNotRead(t, "a is "+word[1:], 5, api.ErrWord)
	}
	a, b := sample.Asked("a"), sample.Asked("b")
	for _, f := range functions1() {
		mustBe(t, f+"(a)", sample.Call(f, a))
		mustNotRead(t, f+"s(a)", 0, api.ErrWord)
		mustNotRead(t, " "+f+"()", 1, api.ErrWord)
		mustNotRead(t, "1 + "+f+" (a, b)", 4, api.ErrWord)
	}
	for _, f := range functions2() {
		mustBe(t, f+"(a,b)", sample.Call(f, a, b))
		mustNotRead(t, "-"+f+"()", 1, api.ErrWord)
		mustNotRead(t, f+"(a)", 0, api.ErrWord)
		mustNotRead(t, "["+f+"(a, a, a)]", 1, api.ErrWord)
	}
	for _, word := range slices.Concat(kindWords()[1:], []string{"foo", "a", "neg", "dot", "at", "field", "value", "call"}) {
		if !slices.Contains(append(functions1(), functions2()...), word) {
			mustNotRead(t, "1 + "+word+"(1)", 4, api.ErrWord)
			mustNotRead(t, "1 + "+word+" \n ( )", 4, api.ErrWord)
		}
	}
}

// P17.1: what stands around what, of each two signs.
func TestLevels(t *testing.T) {
	a, b, c := sample.Asked("a"), sample.Asked("b"), sample.Asked("c")
	for _, first := range signs() {
		mustBe(t, "a "+first+" b", sample.Expr(first, a, b))
		mustBe(t, "- a "+first+" - b", sample.Expr(first, sample.Expr("neg", a), sample.Expr("neg", b)))
		mustBe(t, "a.b "+first+" b[c]", sample.Expr(first, sample.ExprOf("dot", "b", a), sample.Expr("at", b, c)))
		if levels()[first] <= 2 {
			mustBe(t, "not a "+first+" not b", sample.Expr(first, sample.Expr("not", a), sample.Expr("not", b)))
		} else {
			mustBe(t, "not a "+first+" b", sample.Expr("not", sample.Expr(first, a, b)))
			mustNotRead(t, "a "+first+" not b", 3+len(first), api.ErrWord)
		}
		mustNotRead(t, "- not a "+first+" b", 2, api.ErrWord)
		for _, second := range signs() {
			s := "a " + first + " b " + second + " c"
			switch x, y := levels()[first], levels()[second]; {
			case x == 4 && y == 4:
				mustNotRead(t, s, len("a "+first+" b "), api.ErrMore)
				mustNotRead(t, "("+s+")", len("(a "+first+" b "), api.ErrForm)
			case x >= y:
				mustBe(t, s, sample.Expr(second, sample.Expr(first, a, b), c))
			default:
				mustBe(t, s, sample.Expr(first, a, sample.Expr(second, b, c)))
			}
			mustBe(t, "(a "+first+" b) "+second+" c", sample.Expr(second, sample.Expr(first, a, b), c))
			mustBe(t, "a "+first+" (b "+second+" c)", sample.Expr(first, a, sample.Expr(second, b, c)))
		}
		s := "a is int " + first + " b"
		if levels()[first] == 4 {
			mustNotRead(t, s, 9, api.ErrMore)
			mustNotRead(t, "a "+first+" b is int", 5+len(first), api.ErrMore)
		} else if levels()[first] < 4 {
			mustBe(t, s, sample.Expr(first, sample.ExprOf("is", "int", a), b))
		} else {
			mustNotRead(t, s, 9, api.ErrMore)
			mustBe(t, "a "+first+" b is int", sample.ExprOf("is", "int", sample.Expr(first, a, b)))
		}
	}
	mustNotRead(t, "a is int is int", 9, api.ErrMore)
}

// P17.1: blanks of each sort between any two things, and none where none is needed.
func TestBlanks(t *testing.T) {
	tokens := []string{"not", "(", "a", ".", "b", "[", "1", "]", "+", "-", "2", "*", `"x"`, ")", "<=", "len", "(", "#0a", ")", "and", "[", "@5", ",", "nil", ",", "[", "]", "]", "in", "c", "or", "self", "is", "int"}
	spaced := strings.Join(tokens, " ")
	e, _, _ := query.Parse(spaced)
	plain := told(e, false)
	for _, blank := range append(blanks(), "\n\n\n") {
		e := parsed(t, blank+strings.Join(tokens, blank)+blank)
		if got := told(e, false); got != plain {
			t.Errorf("%q: %s", blank, got)
		}
	}
	wordByte := func(c byte) bool { return names.Byte(c) }
	for i := 1; i < len(tokens); i++ {
		left, right := tokens[i-1], tokens[i]
		if wordByte(left[len(left)-1]) && wordByte(right[0]) {
			continue // they would be one word
		}
		s := strings.Join(tokens[:i], " ") + strings.Join(tokens[i:], " ")
		if e := parsed(t, s); told(e, false) != plain {
			t.Errorf("%q: %s", s, told(e, false))
		}
	}
	tight := `not(a.b[1]+-2*"x")<=len(#0a)and[@5,nil,[]]in c or self is int`
	if e := parsed(t, tight); told(e, false) != plain {
		t.Errorf("%s: %s, want %s", tight, told(e, false), plain)
	}
}

// P17.1: 1-2 beside 1 - 2: a number goes as far as text.First says.
func TestNumbers(t *testing.T) {
	one, two := sample.Fixed(int64(1)), sample.Fixed(int64(2))
	for _, s := range []string{"1 - 2", "1 -2", "(1)-2", "(1)-(2)", "1 \t-\n2"} {
		mustBe(t, s, sample.Expr("-", one, two))
	}
	for _, s := range []string{"1-2", "1- 2", "1-a", "1+2", "1+ 2", "1.a", "1.", "1or 2", "1in a", "1a", "01", "00", "0x", "0x1", "0x1.8p0", "0x1P+00", "1.5", "1e5", "0x1p+0", "0x1.80p+00", "0x1p+00.a", "9223372036854775808", "0x1p+1024", "1nan", "1is int"} {
		mustNotRead(t, s, 0, api.ErrForm)
		mustNotRead(t, " a + "+s, 5, api.ErrForm)
	}
	mustBe(t, "a-1", sample.Expr("-", sample.Asked("a"), one))
	mustBe(t, "a-b", sample.Expr("-", sample.Asked("a"), sample.Asked("b")))
	mustBe(t, "a+1 -2", sample.Expr("-", sample.Expr("+", sample.Asked("a"), one), two))
	mustBe(t, "-1 - -2", sample.Expr("-", sample.Expr("neg", one), sample.Expr("neg", two)))
	mustNotRead(t, "+1", 0, api.ErrForm)
	mustNotRead(t, "a = +1", 4, api.ErrForm)
	mustNotRead(t, "+inf", 0, api.ErrForm)
	mustBe(t, "-inf", sample.Expr("neg", sample.Asked("inf")))
	mustNotRead(t, "nan(7ff8000000000001)", 0, api.ErrWord)
	mustNotRead(t, "1 2", 2, api.ErrMore)
}

// P17.1: what text.First refuses, at the place that it tells.
func TestConstants(t *testing.T) {
	for s, want := range map[string]struct {
		at  int
		why api.Errno
	}{
		`"a`: {2, api.ErrShort}, `"`: {1, api.ErrShort}, `"a\`: {3, api.ErrShort}, `"\x0`: {4, api.ErrShort}, "\"a\nb\"": {2, api.ErrForm}, `"a\q"`: {2, api.ErrForm}, `"a\x0g"`: {2, api.ErrForm}, "\"a\xff\"": {2, api.ErrForm},
		"#0": {0, api.ErrForm}, "#0a0": {0, api.ErrForm}, "#0aand b": {0, api.ErrForm}, "@": {0, api.ErrForm}, "@01": {0, api.ErrForm}, "@18446744073709551616": {0, api.ErrForm}, "@a": {0, api.ErrForm}, "#0A": {0, api.ErrForm},
	} {
		for _, ahead := range []string{"", " ", "a + ", "not -(", "[1, ", "a[", "len(", "a in "} {
			mustNotRead(t, ahead+s, len(ahead)+want.at, want.why)
		}
	}
	mustNotRead(t, "# 0a", 2, api.ErrMore)
	mustNotRead(t, "@ 1", 0, api.ErrForm)
	mustNotRead(t, `"a"b"`, 3, api.ErrMore)
	mustBe(t, `"\x61\n"`, sample.Fixed("a\n"))
	mustBe(t, `["(", ")]"]`, sample.Expr("list", sample.Fixed("("), sample.Fixed(")]")))
}

// aheads is texts behind which a thing of level 7 must come, and whether one of level 3 may.
func aheads() map[string]int {
	m := map[string]int{"": 3, " \n": 3, "(": 3, "[": 3, "[a,": 3, "[a, ": 3, "len(": 3, "has(a ,": 3, "a[": 3, "a.b[ ": 3, "not ": 3, "not not ": 3, "((": 3, "-": 7, "- -": 7, "not -": 7}
	for _, op := range signs() {
		m["a "+op+" "] = 7
		if levels()[op] <= 2 {
			m["a "+op+" "] = 3
		}
	}
	return m
}

// P17.1: where a thing of level 7 must come.
func TestThings(t *testing.T) {
	for ahead, level := range aheads() {
		at := len(ahead)
		for _, blank := range append(blanks(), "") {
			mustNotRead(t, ahead+blank, at+len(blank), api.ErrShort)
		}
		for c := range 256 {
			b := string([]byte{byte(c)})
			isBracket := b == "]" && strings.HasSuffix(ahead, "[") && !strings.Contains(ahead, "a[") || b == ")" && ahead == "len("
			switch {
			case strings.Contains(" \t\n\r", b) || strings.Contains("abcdefghijklmnopqrstuvwxyz0123456789-([\"#@", b) || isBracket:
			default:
				mustNotRead(t, ahead+b, at, api.ErrForm)
				mustNotRead(t, ahead+b+"a", at, api.ErrForm)
				mustNotRead(t, ahead+" "+b, at+1, api.ErrForm)
			}
		}
		for _, word := range strings.Fields("or and in is nan") {
			mustNotRead(t, ahead+word, at, api.ErrWord)
			mustNotRead(t, ahead+word+" a", at, api.ErrWord)
			mustNotRead(t, ahead+word+"(", at, api.ErrWord)
		}
		if level == 7 {
			mustNotRead(t, ahead+"not a", at, api.ErrWord)
			mustNotRead(t, ahead+"not", at, api.ErrWord)
		} else {
			mustNotRead(t, ahead+"not", at+3, api.ErrShort)
		}
		long := strings.Repeat("a", api.MaxName+1)
		mustNotRead(t, ahead+long, at, api.ErrWord)
		mustNotRead(t, ahead+long+"(a)", at, api.ErrWord)
		mustNotRead(t, ahead+"foo(", at, api.ErrWord)
		mustNotRead(t, ahead+"len(", at+4, api.ErrShort)
		mustNotRead(t, ahead+"len(a", at+5, api.ErrShort)
		mustNotRead(t, ahead+"len(a,a", at+7, api.ErrShort)
		mustNotRead(t, ahead+"len(a,!", at+6, api.ErrForm)
		mustNotRead(t, ahead+"len(a,)", at+6, api.ErrForm)
		mustNotRead(t, ahead+"len()", at, api.ErrWord)
	}
}

// P17.1: behind is and a dot.
func TestBehind(t *testing.T) {
	for _, ahead := range []string{"a is", "a.b is", "(a is", "a.", "a .", "1 .", "-a.", "[a."} {
		isOf := strings.HasSuffix(ahead, "is")
		for _, blank := range append(blanks(), "") {
			mustNotRead(t, ahead+blank, len(ahead+blank), api.ErrShort)
			for c := range 256 {
				b := string([]byte{byte(c)})
				if strings.Contains(" \t\n\r", b) || 'a' <= c && c <= 'z' || blank == "" && isOf && (c == '_' || '0' <= c && c <= '9') {
					continue
				}
				mustNotRead(t, ahead+blank+b, len(ahead+blank), api.ErrForm)
				mustNotRead(t, ahead+blank+b+"int", len(ahead+blank), api.ErrForm)
			}
		}
		long := strings.Repeat("a", api.MaxName+1)
		mustNotRead(t, ahead+" "+long, len(ahead)+1, api.ErrWord)
		mustNotRead(t, ahead+" \n"+long+")", len(ahead)+2, api.ErrWord)
		if isOf {
			for _, word := range []string{"thing", "a", "i", "in", "is", "int8", "nan", "true", "self", "any", "none", "value"} {
				mustNotRead(t, ahead+" "+word, len(ahead)+1, api.ErrWord)
			}
		}
	}
	mustNotRead(t, "a isint", 2, api.ErrMore)
	mustNotRead(t, "a is.b", 4, api.ErrForm)
	mustNotRead(t, "a.5", 2, api.ErrForm)
	mustNotRead(t, "a.[0]", 2, api.ErrForm)
	mustNotRead(t, "a..b", 2, api.ErrForm)
	mustNotRead(t, "a.B", 2, api.ErrForm)
	mustNotRead(t, "a.b(c)", 3, api.ErrMore)
	mustNotRead(t, "a.len(c)", 5, api.ErrMore)
}

// P17.1: where a bracket or a comma must come.
func TestBrackets(t *testing.T) {
	for _, ahead := range []string{"(a", "[a", "[a, b", "a[b", "len(a", "has(a, b", "((a)", "(-a", "(not a", "[(a)", "(a[b]", "(a = b", "[a is int", "(a.b", "[[]", "[1"} {
		for _, blank := range append(blanks(), "") {
			mustNotRead(t, ahead+blank, len(ahead+blank), api.ErrShort)
		}
		for _, wrong := range []string{"a", "1", `"`, "!", "?", ";", ":", "=>", "\x00", "\xff", "}", "{", "$", "&&", "not", "ora", "an", "is2", "=="} {
			switch {
			case wrong == "=>" || wrong == "==":
				if strings.Contains(ahead, "=") || strings.Contains(ahead, " is ") {
					mustNotRead(t, ahead+" "+wrong, len(ahead)+1, api.ErrForm)
				} else {
					mustNotRead(t, ahead+" "+wrong, len(ahead)+2, api.ErrForm)
				}
			default:
				mustNotRead(t, ahead+" "+wrong, len(ahead)+1, api.ErrForm)
			}
		}
	}
	mustNotRead(t, "(a]", 2, api.ErrForm)
	mustNotRead(t, "(a,b)", 2, api.ErrForm)
	mustNotRead(t, "a[b,c]", 3, api.ErrForm)
	mustNotRead(t, "a[b)", 3, api.ErrForm)
	mustNotRead(t, "[a)", 2, api.ErrForm)
	mustNotRead(t, "len(a]", 5, api.ErrForm)
	mustNotRead(t, "()", 1, api.ErrForm)
	mustNotRead(t, "a[]", 2, api.ErrForm)
	mustNotRead(t, "[,a]", 1, api.ErrForm)
	mustNotRead(t, "[a,]", 3, api.ErrForm)
	mustNotRead(t, "[a,,b]", 3, api.ErrForm)
}

// P17.1: behind the whole.
func TestMore(t *testing.T) {
	for _, whole := range []string{"a", "(a)", "[]", "1", `"x"`, "#0a", "@1", "self", "nil", "a.b", "a[0]", "len(a)", "-a", "not a", "a + b", "a or b", "a is int", "a = b"} {
		for _, blank := range append(blanks(), "") {
			mustRead(t, whole+blank, told(parsed(t, whole), true))
		}
		for _, more := range []string{"a", "1", `"`, "!", ")", "]", ",", "}", "{", "$", "&&", "not a", "ors", "an", "#", "@", ";", "\x00", "\xff", "self", "nil", "A", "_", "(a)"} {
			if more == "(a)" && strings.ContainsAny(whole[len(whole)-1:], "ab") {
				continue // it would be a call
			}
			mustNotRead(t, whole+" "+more, len(whole)+1, api.ErrMore)
			mustNotRead(t, whole+"\n\t "+more, len(whole)+3, api.ErrMore)
		}
	}
	for s, at := range map[string]int{"a = b = c": 6, "a < b is int": 6, "a is int = b": 9, "a in b in c": 7, "a != b < c": 7, "a ! b": 2, "a or1": 2, "a inb": 2, "a and2 b": 2, "nil(1)": 3, "self(a)": 4, "true (a)": 5, "a.b (c)": 4, "1(2)": 1, "a)": 1, "(a))": 3, "[]]": 2, "nil/1{}": 5, "true/1{a: 1}": 6} {
		mustNotRead(t, s, at, api.ErrMore)
	}
	for s, at := range map[string]int{"a == b": 3, "a <> b": 3, "a =! b": 3, "a =< b": 3, "a => b": 3, "a < = b": 4, "a ** b": 3, "a // b": 3, "a + + b": 4, "a * / b": 4} {
		mustNotRead(t, s, at, api.ErrForm)
	}
	mustNotRead(t, "a or or b", 5, api.ErrWord)
	mustNotRead(t, "a , b", 2, api.ErrMore)
}

// deepTexts is texts that lie in something once, with what comes ahead and behind.
func deepTexts() [][2]string {
	return [][2]string{{"(", ")"}, {"[", "]"}, {"a[", "]"}, {"len(", ")"}, {"has(a, ", ")"}, {"any(", ", a)"}, {"not ", ""}, {"-", ""}, {"( ", " + 1)"}, {"[a, b, ", "]"}, {"not - (", ")"}}
}

// P17.1: in MaxDepth - 1 others, and in one more.
func TestDepth(t *testing.T) {
	inner := map[string]int{"a": 0, "1": 0, `"x"`: 0, "#": 0, "@1": 0, "self": 0, "nil": 0, "[]": 0, "(a)": 1, "-a": 1, "not a": 1, "[a]": 1, "len(a)": 1, "a[0]": 1, "a.b": 0, "((a))": 2, "a + b": 0}
	for _, x := range deepTexts() {
		each := strings.Count(x[0], "(") + strings.Count(x[0], "[") + strings.Count(x[0], "-") + strings.Count(x[0], "not ")
		for s, more := range inner {
			for n := 58 / each; n <= 68/each; n++ {
				if x[0] == "-" && s == "not a" || x[0] == "not - (" && s == "" {
					continue
				}
				text := strings.Repeat(x[0], n) + s + strings.Repeat(x[1], n)
				_, at, why := query.Parse(text)
				switch depth := each * n; {
				case depth+more < api.MaxDepth:
					if at != 0 || why != api.OK {
						t.Errorf("%d times %s, %s: %d, %d", n, x[0], s, at, why)
					}
				case why != api.ErrLong:
					t.Errorf("%d times %s, %s: %d, %d", n, x[0], s, at, why)
				}
			}
		}
	}
	for _, open := range []string{"(", "[", "a[", "len(", "not ", "-"} {
		for _, s := range []string{"a", "1", "self", "[]", "(a)", "-a", `"x"`, "len(a)", "#", "@1", "or", "nan", "foo(", "1-2", `"`} {
			mustNotRead(t, deeper(open)+s, len(deeper(open)), api.ErrLong)
		}
		mustNotRead(t, deeper(open), len(deeper(open)), api.ErrShort)
		mustNotRead(t, deeper(open)+"!", len(deeper(open)), api.ErrForm)
		if open != "-" {
			mustNotRead(t, deeper(open)+"not a", len(deeper(open)), api.ErrLong)
			mustNotRead(t, deep(open)+"not a", len(deep(open)+"not "), api.ErrLong)
			mustNotRead(t, deep(open)+"not !", len(deep(open)+"not "), api.ErrForm)
		} else {
			mustNotRead(t, deeper(open)+"not a", len(deeper(open)), api.ErrLong)
			mustNotRead(t, deep(open)+"not a", len(deep(open)), api.ErrWord)
		}
	}
	// Each counts for what lies in it alone.
	mustBe(t, deep("(")+"a"+deep(")")+" + "+deep("(")+"b"+deep(")"), sample.Expr("+", sample.Asked("a"), sample.Asked("b")))
	parsed(t, "["+deep("-")[1:]+"a,"+deep("-")[1:]+"a, not "+deep("-")[2:]+"a]")
	parsed(t, deep("not ")+"a or "+deep("not ")+"b and "+deep("-")+"c = "+deep("-")+"d + "+deep("[")+deep("]"))
	parsed(t, "a"+strings.Repeat("[0]", 200)+strings.Repeat(".b", 200)+deep("[a")+deep("]"))
	parsed(t, strings.Repeat("-a + ", 200)+"b")
	parsed(t, strings.Repeat("not a or ", 200)+"b")
	mustNotRead(t, deep("not ")+"a = "+"(b)", len(deep("not ")+"a = ("), api.ErrLong)
	mustNotRead(t, deep("not ")+"a = "+"-b", len(deep("not ")+"a = -"), api.ErrLong)
	mustNotRead(t, deep("-")+"a[b]", len(deep("-")+"a["), api.ErrLong)
	parsed(t, deep("-")+"a.b - (-b)")
}

// P17.1: MaxNodes expressions and one more, each of which may be the last one.
func TestNodes(t *testing.T) {
	filler := "[" + strings.Repeat("a,", api.MaxNodes-2) // with the list itself one is left
	room := len(filler)
	for _, s := range []string{"a", "1", "self", "nil", "true", `"x"`, "#00", "@1", "[]", "(a)", "((((a))))", "( 1 )"} {
		e := parsed(t, filler+s+"]")
		if len(e.Parts) != api.MaxNodes-1 {
			t.Errorf("%s: %d parts", s, len(e.Parts))
		}
		mustNotRead(t, filler+"a,"+s+"]", room+2+strings.IndexAny(s, "a1snt\"#@["), api.ErrLong)
		mustNotRead(t, filler+"a,"+s, room+2+strings.IndexAny(s, "a1snt\"#@["), api.ErrLong)
	}
	for _, op := range append(signs(), "is") {
		mustNotRead(t, filler+"a "+op+" b]", room+2, api.ErrLong)
		mustNotRead(t, filler+"a "+op, room+2, api.ErrLong)
	}
	for s, at := range map[string]int{"a.b]": 1, "a .": 2, "a[b]]": 1, "a [": 2, "-a]": 1, "- -a": 2, "not a]": 4, "not not": 4, "[a]]": 1, "len(a)]": 4, "len(1": 4, "len(-1": 4, "(a.b)": 2, "(a)+b": 3} {
		mustNotRead(t, filler+s, room+at, api.ErrLong)
	}
	for s, at := range map[string]int{"-a": 0, "not a": 0, "len(a)": 0, "any(": 0, "[": 0, `"`: 0, "1-2": 0, "#0": 0, "(a": 1, "nil": 0} {
		mustNotRead(t, filler+"a,"+s, room+2+at, api.ErrLong)
	}
	for s, want := range map[string]struct {
		at  int
		why api.Errno
	}{"": {0, api.ErrShort}, " ": {1, api.ErrShort}, "!": {0, api.ErrForm}, "(": {1, api.ErrShort}, "(!": {1, api.ErrForm}} {
		mustNotRead(t, filler+"a,"+s, room+2+want.at, want.why)
	}
	mustNotRead(t, filler+"a", room+1, api.ErrShort)
	mustNotRead(t, filler+"a!", room+1, api.ErrForm)
	mustNotRead(t, filler+"a]]", room+2, api.ErrMore)

	chain := strings.Repeat("-", 63) + "a" + strings.Repeat("-a", (api.MaxNodes-64)/2)
	e := parsed(t, chain)
	if s, why := query.Print(e); why != api.OK || strings.ReplaceAll(s, " ", "") != chain {
		t.Error(short(s), why)
	}
	mustNotRead(t, chain+".a", len(chain), api.ErrLong)
	s := strings.Repeat("(", 61) + strings.Repeat("(a)or", api.MaxNodes/2-1) + "(-a)" + strings.Repeat(")", 61)
	parsed(t, s) // as many as may be, brackets not counted
	mustNotRead(t, s[:61]+"-"+s[61:], strings.Index(s, "-")+2, api.ErrLong)
}

// P17.1: texts of MaxText bytes and one more.
func TestLength(t *testing.T) {
	for _, s := range []string{"a", "a = b", "[1]"} {
		full := s + strings.Repeat(" ", api.MaxText-len(s))
		if e := parsed(t, full); told(e, true) != told(parsed(t, s), true) {
			t.Error(s)
		}
		mustNotRead(t, full+" ", 0, api.ErrLong)
		mustNotRead(t, full+"!", 0, api.ErrLong)
		ahead := strings.Repeat("\n", api.MaxText-len(s)) + s
		parsed(t, ahead)
		mustNotRead(t, " "+ahead, 0, api.ErrLong)
	}
	text := `"` + strings.Repeat("x", api.MaxText-2) + `"`
	mustBe(t, text, sample.Fixed(text[1:len(text)-1]))
	mustNotRead(t, text[:api.MaxText-1]+`x"`, 0, api.ErrLong)
	mustNotRead(t, strings.Repeat("!", api.MaxText), 0, api.ErrForm)
	mustNotRead(t, strings.Repeat("!", api.MaxText+1), 0, api.ErrLong)
	mustNotRead(t, strings.Repeat(" ", api.MaxText), api.MaxText, api.ErrShort)
	mustNotRead(t, strings.Repeat(" ", api.MaxText+1), 0, api.ErrLong)
	mustNotRead(t, strings.Repeat(" ", 1<<22), 0, api.ErrLong)
	mustNotRead(t, strings.Repeat(" ", api.MaxText-1)+"!", api.MaxText-1, api.ErrForm)
	mustNotRead(t, strings.Repeat("a", api.MaxText), 0, api.ErrWord)
	mustNotRead(t, strings.Repeat("1", api.MaxText), 0, api.ErrForm)
	mustNotRead(t, "a"+strings.Repeat(" ", api.MaxText-2)+"!", api.MaxText-1, api.ErrMore)
}

// P17.1: the beginnings of an expression with all in it: what they lack is told where they end, or where their last word or value begins.
func TestBeginnings(t *testing.T) {
	const s = `not (a.b[1] + -2 * "x\x41") <= len(#0a) and [@5, nil, []] in c or self is int and has(a, 0x1.8p+00) % any(a, self)`
	parsed(t, s)
	refused := 0
	for i := range s {
		_, at, why := query.Parse(s[:i])
		if why == api.OK {
			continue
		}
		refused++
		last := strings.TrimRight(s[:i], "abcdefghijklmnopqrstuvwxyz0123456789+.#@")
		if at < len(last) || why == api.ErrShort && at != i {
			t.Errorf("%q: %d, %d", s[:i], at, why)
		}
	}
	if refused < 70 {
		t.Error("just", refused, "are refused")
	}
}
