package text_test

import (
	"fmt"
	"math"
	"math/rand"
	"strconv"
	"strings"
	"testing"

	"tenon/api"
	"tenon/sample"
	"tenon/text"
)

// said is a value and its text.
type said struct {
	v any
	s string
}

// plainTexts are values of each kind with their texts, the greatest and least numbers among them.
func plainTexts() []said {
	return []said{
		{nil, "nil"}, {true, "true"}, {false, "false"},
		{int64(0), "0"}, {int64(7), "7"}, {int64(-3), "-3"}, {int64(10), "10"}, {int64(-100), "-100"}, {int64(math.MaxInt64), "9223372036854775807"}, {int64(math.MinInt64), "-9223372036854775808"},
		{"", `""`}, {"a b", `"a b"`}, {"a\n", `"a\n"`}, {"\t\r\n", `"\t\r\n"`}, {`"\`, `"\"\\"`}, {"\x00é", `"\x00\xc3\xa9"`}, {"~\x7f\x80\xff \x1f", `"~\x7f\x80\xff \x1f"`}, {"\\n", `"\\n"`}, {"{a: 1}", `"{a: 1}"`}, {"'`#@/", "\"'`#@/\""},
		{[]byte{}, "#"}, {[]byte(nil), "#"}, {[]byte{10}, "#0a"}, {[]byte{0, 255, 0x9f, 0xa0}, "#00ff9fa0"}, {[]byte("az"), "#617a"},
		{api.Ref(0), "@0"}, {api.Ref(7), "@7"}, {api.Ref(1 << 63), "@9223372036854775808"}, {api.Ref(math.MaxUint64), "@18446744073709551615"},
		{api.List{}, "[]"}, {api.List(nil), "[]"}, {api.List{nil}, "[nil]"}, {api.List{int64(1), int64(2), int64(3)}, "[1, 2, 3]"}, {api.List{api.List{}, api.List{true}}, "[[], [true]]"},
		{api.Dict{}, "{}"}, {api.Dict(nil), "{}"}, {api.Dict{sample.Field("a", int64(1))}, "{a: 1}"}, {api.Dict{sample.Field("a", int64(1)), sample.Field("b_2", api.Dict{sample.Field("c", "")})}, `{a: 1, b_2: {c: ""}}`},
		{sample.Record("a", 1), "a/1{}"}, {sample.Record("nil", 1000, sample.Field("nil", nil)), "nil/1000{nil: nil}"}, {sample.Record("nan", 10, sample.Field("true", false)), "nan/10{true: false}"}, {sample.Record("p", 2, sample.Field("a", sample.Record("q", 3, sample.Field("b", api.Ref(1)))), sample.Field("c", api.List{[]byte{1}})), "p/2{a: q/3{b: @1}, c: [#01]}"},
		{sample.Record(strings.Repeat("n", api.MaxName), api.MaxVersion, sample.Field(strings.Repeat("m", api.MaxName), nil)), strings.Repeat("n", 32) + "/1000{" + strings.Repeat("m", 32) + ": nil}"},
		{api.List{nil, int64(-3), "a\n", []byte{10}, api.Ref(7)}, `[nil, -3, "a\n", #0a, @7]`}, {sample.Record("person", 2, sample.Field("age", 1.5)), "person/2{age: 0x1.8p+00}"},
	}
}

// floatTexts are floats with their texts: noughts, infinities, NaNs of several bits, normal ones and those below.
func floatTexts() []said {
	return []said{
		{0.0, "0x0p+00"}, {sample.MinusZero(), "-0x0p+00"}, {math.Inf(1), "+inf"}, {math.Inf(-1), "-inf"},
		{math.NaN(), "nan(7ff8000000000001)"}, {sample.Bits(0x7ff8000000000000), "nan(7ff8000000000000)"}, {sample.Bits(0xfff8000000000123), "nan(fff8000000000123)"}, {sample.Bits(0x7ff0000000000001), "nan(7ff0000000000001)"}, {sample.Bits(0xfff0000000000001), "nan(fff0000000000001)"}, {sample.Bits(0x7fffffffffffffff), "nan(7fffffffffffffff)"}, {sample.Bits(0xffffffffffffffff), "nan(ffffffffffffffff)"}, {sample.Bits(0x7ffabcdef0123456), "nan(7ffabcdef0123456)"},
		{1.0, "0x1p+00"}, {-1.0, "-0x1p+00"}, {3.0, "0x1.8p+01"}, {-1.5, "-0x1.8p+00"}, {0.5, "0x1p-01"}, {0.1, "0x1.999999999999ap-04"}, {math.Pi, "0x1.921fb54442d18p+01"}, {100.0, "0x1.9p+06"}, {1.0625, "0x1.1p+00"}, {257.0, "0x1.01p+08"}, {256.0625, "0x1.001p+08"},
		{512.0, "0x1p+09"}, {1024.0, "0x1p+10"}, {0x1p-9, "0x1p-09"}, {0x1p-10, "0x1p-10"}, {0x1p+99, "0x1p+99"}, {0x1p+100, "0x1p+100"}, {0x1p-100, "0x1p-100"}, {1 + 0x1p-52, "0x1.0000000000001p+00"}, {2 - 0x1p-52, "0x1.fffffffffffffp+00"},
		{math.MaxFloat64, "0x1.fffffffffffffp+1023"}, {-math.MaxFloat64, "-0x1.fffffffffffffp+1023"}, {0x1p+1023, "0x1p+1023"}, {0x1p-1022, "0x1p-1022"},
		{sample.Bits(0x000fffffffffffff), "0x1.ffffffffffffep-1023"}, {sample.Bits(0x0008000000000000), "0x1p-1023"}, {sample.Bits(3), "0x1.8p-1073"}, {sample.Bits(2), "0x1p-1073"}, {sample.Bits(1), "0x1p-1074"}, {sample.Bits(1<<63 | 1), "-0x1p-1074"}, {sample.Bits(1<<63 | 0x0001234500000000), "-0x1.2345p-1026"},
	}
}

func texts() []said { return append(plainTexts(), floatTexts()...) }

// P2.1: Print: the text of each kind.
func TestPrint(t *testing.T) {
	for _, x := range texts() {
		if s, e := text.Print(x.v); s != x.s || e != api.OK {
			t.Errorf("%T: %s, %d, want %s", x.v, s, e, x.s)
		}
	}
}

// P2.1: Float: by itself, and within a value.
func TestFloat(t *testing.T) {
	for _, x := range floatTexts() {
		if s := text.Float(x.v.(float64)); s != x.s {
			t.Errorf("%v: %s, want %s", x.v, s, x.s)
		}
		if s, e := text.Print(api.List{x.v}); s != "["+x.s+"]" || e != api.OK {
			t.Errorf("%v in a list: %s, %d", x.v, s, e)
		}
	}
	r := rand.New(rand.NewSource(2))
	for range 5000 {
		for _, bits := range []uint64{r.Uint64(), r.Uint64() &^ (0x7ff << 52), r.Uint64() | 0x7ff<<52, r.Uint64() &^ (1<<40 - 1)} {
			if s, want := text.Float(sample.Bits(bits)), floatText(bits); s != want {
				t.Fatalf("%x: %s, want %s", bits, s, want)
			}
		}
	}
}

// floatText works a float's text out of its bits, as the chapter says it.
func floatText(bits uint64) string {
	sign, e, m := "", int(bits>>52&0x7ff)-1023, bits&(1<<52-1)
	if bits>>63 == 1 {
		sign = "-"
	}
	switch {
	case e == 1024 && m != 0:
		return fmt.Sprintf("nan(%016x)", bits)
	case e == 1024 && sign == "":
		return "+inf"
	case e == 1024:
		return "-inf"
	case e == -1023 && m == 0:
		return sign + "0x0p+00"
	case e == -1023: // below the normal ones: until m is at least 1
		for e = -1022; m>>52 == 0; e-- {
			m <<= 1
		}
		m &= 1<<52 - 1
	}
	s := sign + "0x1"
	if m != 0 {
		s += "." + strings.TrimRight(fmt.Sprintf("%013x", m), "0")
	}
	return s + fmt.Sprintf("p%+03d", e)
}

// P2.1: Quote: every byte by itself, between others, and of any length.
func TestQuote(t *testing.T) {
	for c := range 256 {
		want := string(rune(c))
		switch {
		case c == '"' || c == '\\':
			want = `\` + want
		case c == '\n':
			want = `\n`
		case c == '\t':
			want = `\t`
		case c == '\r':
			want = `\r`
		case c < 0x20 || c > 0x7e:
			want = fmt.Sprintf(`\x%02x`, c)
		}
		b := string([]byte{byte(c)})
		if s := text.Quote(b); s != `"`+want+`"` {
			t.Errorf("%q: %s", b, s)
		}
		if s := text.Quote("0" + b + "f" + b); s != `"0`+want+"f"+want+`"` {
			t.Errorf("%q between others: %s", b, s)
		}
	}
	long := strings.Repeat("x", api.MaxText+1) // that it is no value's text plays no part
	if s := text.Quote(long); s != `"`+long+`"` {
		t.Error("a long one:", len(s))
	}
}

// P2.1: Lines: brackets with something between them over several lines, all else as in the text.
func TestLines(t *testing.T) {
	one := int64(1)
	for _, x := range []struct {
		v     any
		lines []string
	}{
		{api.Dict{sample.Field("a", api.List{one, int64(2)}), sample.Field("b", api.Dict{})}, []string{"{", "  a: [", "    1,", "    2", "  ],", "  b: {}", "}"}},
		{api.List{}, []string{"[]"}}, {api.Dict(nil), []string{"{}"}}, {sample.Record("a", 1), []string{"a/1{}"}}, {api.List{api.List{}}, []string{"[", "  []", "]"}}, {api.List{nil}, []string{"[", "  nil", "]"}},
		{sample.Record("p", 2, sample.Field("a", one)), []string{"p/2{", "  a: 1", "}"}}, {sample.Record("p", 2, sample.Field("a", api.List{sample.Record("q", 3, sample.Field("b", one), sample.Field("c", "\n"))})), []string{"p/2{", "  a: [", "    q/3{", "      b: 1,", `      c: "\n"`, "    }", "  ]", "}"}},
		{api.List{api.List{api.List{one}}, one}, []string{"[", "  [", "    [", "      1", "    ]", "  ],", "  1", "]"}},
	} {
		if s, e := text.Lines(x.v); s != strings.Join(x.lines, "\n") || e != api.OK {
			t.Errorf("%v: %s, %d", x.v, s, e)
		}
	}
	for _, x := range texts() {
		if strings.HasSuffix(x.s, "]") || strings.HasSuffix(x.s, "}") {
			continue
		}
		if s, e := text.Lines(x.v); s != x.s || e != api.OK {
			t.Errorf("%v: %s, %d, want %s", x.v, s, e, x.s)
		}
	}
}

// P2.1: the deepest value that can be has two blanks ahead for each of those around it.
func TestLinesDeep(t *testing.T) {
	for _, v := range []any{sample.Within(api.MaxDepth, int64(5)), sample.WithinFields(api.MaxDepth, int64(5))} {
		s, e := text.Lines(v)
		lines := strings.Split(s, "\n")
		if e != api.OK || len(lines) != 127 {
			t.Fatal(e, len(lines))
		}
		for i, line := range lines {
			ahead := len(line) - len(strings.TrimLeft(line, " "))
			if ahead != 2*min(i, 126-i) {
				t.Errorf("line %d: %q", i, line)
			}
		}
	}
}

// P2.1: the limits themselves have texts, of the length that the forms give.
func TestPrintLimits(t *testing.T) {
	for i, x := range []struct {
		v any
		n int
	}{
		{strings.Repeat("x", api.MaxText), 65538}, {strings.Repeat("\x00", api.MaxText), 2 + 4*65536}, {make([]byte, api.MaxText), 1 + 2*65536}, {sample.Items(api.MaxItems), 5 * 4096}, {sample.Fields(api.MaxItems), 13 * 4096}, {sample.Within(api.MaxDepth, nil), 3 + 2*63},
	} {
		if s, e := text.Print(x.v); len(s) != x.n || e != api.OK {
			t.Error(i, len(s), e)
		}
	}
}

// P2.1: what can't be has no text: Check's error and nothing beside.
func TestPrintWrong(t *testing.T) {
	for _, x := range sample.Wrongs() {
		if s, e := text.Print(x.V); s != "" || e != x.Why {
			t.Errorf("%s: %d bytes, %d, want %d", x.Name, len(s), e, x.Why)
		}
		if s, e := text.Lines(x.V); s != "" || e != x.Why {
			t.Errorf("lines of %s: %d bytes, %d, want %d", x.Name, len(s), e, x.Why)
		}
	}
	for _, v := range []any{7, uint64(7), []any{}, map[string]any{}, func() {}, api.Record{Class: "a", Version: 1}, struct{}{}, (*api.List)(nil), api.OK, []string{}, 'a', float32(1)} {
		if s, e := text.Print(v); s != "" || e != api.ErrKind {
			t.Errorf("%T: %s, %d", v, s, e)
		}
		if s, e := text.Lines(sample.Record("a", 1, sample.Field("a", v))); s != "" || e != api.ErrKind {
			t.Errorf("lines with %T: %s, %d", v, s, e)
		}
	}
}

// P2.1: neither call changes what it is handed.
func TestPrintChangesNothing(t *testing.T) {
	v := sample.Record("a", 1, sample.Field("a", append(make(api.List, 0, 4), []byte{1, 2}, "x")), sample.Field("b", nil))
	want := fmt.Sprint(v.Class, v.Version, v.Fields, cap(v.Fields[0].Value.(api.List)))
	for range 2 {
		if s, _ := text.Print(v); s != `a/1{a: [#0102, "x"], b: nil}` {
			t.Error(s)
		}
		text.Lines(v)
	}
	if got := fmt.Sprint(v.Class, v.Version, v.Fields, cap(v.Fields[0].Value.(api.List))); got != want {
		t.Error(got)
	}
}

func TestIntegers(t *testing.T) {
	r := rand.New(rand.NewSource(1))
	for range 1000 {
		n := int64(r.Uint64()) >> r.Intn(64)
		if s, e := text.Print(n); s != strconv.FormatInt(n, 10) || e != api.OK {
			t.Fatal(n, s, e)
		}
		u := r.Uint64() >> r.Intn(64)
		if s, e := text.Print(api.Ref(u)); s != "@"+strconv.FormatUint(u, 10) || e != api.OK {
			t.Fatal(u, s, e)
		}
	}
}
