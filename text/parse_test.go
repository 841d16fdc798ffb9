package text_test

import (
	"fmt"
	"strings"
	"testing"

	"tenon/api"
	"tenon/sample"
	"tenon/text"
	"tenon/value"
)

// fault is a text that is no value's, at which place and why.
type fault struct {
	s   string
	at  int
	why api.Errno
}

// mustRefuse holds a text against both readers: none of these has a value with which it begins.
func mustRefuse(t *testing.T, all ...fault) {
	t.Helper()
	for _, x := range all {
		if v, at, e := text.Parse(x.s); v != nil || at != x.at || e != x.why {
			t.Errorf("Parse(%s): %v, %d, %d, want %d, %d", short(x.s), v, at, e, x.at, x.why)
		}
		if v, at, e := text.First(x.s); v != nil || at != x.at || e != x.why {
			t.Errorf("First(%s): %v, %d, %d, want %d, %d", short(x.s), v, at, e, x.at, x.why)
		}
	}
}

// mustForm is of texts that have no value's form, all at one place.
func mustForm(t *testing.T, at int, all ...string) {
	t.Helper()
	for _, s := range all {
		mustRefuse(t, fault{s, at, api.ErrForm})
	}
}

// mustRead holds a text against both readers: it is that value's, and nothing stands behind.
func mustRead(t *testing.T, s string, want any) {
	t.Helper()
	if v, at, e := text.Parse(s); e != api.OK || at != 0 || !value.Same(v, want) {
		t.Errorf("Parse(%s): %v, %d, %d", short(s), v, at, e)
	}
	if v, n, e := text.First(s); e != api.OK || n != len(strings.TrimRight(s, " \t\n\r")) || !value.Same(v, want) {
		t.Errorf("First(%s): %v, %d, %d", short(s), v, n, e)
	}
}

func short(s string) string {
	if len(s) > 80 {
		s = s[:40] + " .. " + s[len(s)-40:]
	}
	return fmt.Sprintf("%q", s)
}

// P2.2: the texts themselves, and with blanks around them.
func TestRead(t *testing.T) {
	for _, x := range texts() {
		mustRead(t, x.s, x.v)
		mustRead(t, " \t\r\n"+x.s+"\n \t\r", x.v)
		mustRead(t, "["+x.s+","+x.s+"]", api.List{x.v, x.v})
		mustRead(t, "{a:"+x.s+",b:"+x.s+"}", api.Dict{sample.Field("a", x.v), sample.Field("b", x.v)})
	}
}

// P2.2: blanks wherever they may stand, of each sort and several.
func TestBlanks(t *testing.T) {
	tokens := []string{"[", "1", ",", "c/3", "{", "a", ":", `"x"`, ",", "b", ":", "[", "]", ",", "c", ":", "{", "}", "}", ",", "#00", ",", "@5", ",", "nil", ",", "nan(7ff8000000000001)", ",", "-0x1p+00", "]"}
	want := api.List{int64(1), sample.Record("c", 3, sample.Field("a", "x"), sample.Field("b", api.List{}), sample.Field("c", api.Dict{})), []byte{0}, api.Ref(5), nil, sample.Bits(0x7ff8000000000001), -1.0}
	for _, blanks := range []string{"", " ", "\t", "\n", "\r", " \t\n\r", "    ", "\r\n\r\n"} {
		mustRead(t, blanks+strings.Join(tokens, blanks)+blanks, want)
		for i := range tokens {
			mustRead(t, strings.Join(tokens[:i], "")+blanks+strings.Join(tokens[i:], ""), want)
		}
	}
	mustRead(t, " [ 1 , 2 ] ", api.List{int64(1), int64(2)})
	for c := range 256 {
		if strings.IndexByte(" \t\n\r", byte(c)) < 0 && strings.IndexByte("+-\"#@[{0123456789abcdefghijklmnopqrstuvwxyz", byte(c)) < 0 {
			mustForm(t, 1, " "+string([]byte{byte(c)})+"7")
		}
	}
}

// P2.2: no blanks within a word, a number, a string, nor between a class, its / and its version.
func TestNoBlanks(t *testing.T) {
	mustForm(t, 0, "n il", "tr ue", "- 1", "+ inf", "@ 1", "#0 0", "nan (7ff8000000000001)", "nan( 7ff8000000000001)", "nan(7ff8000000000001 )", "per son/1{}", "person /1{}")
	mustForm(t, 7, "person/ 1{}", "person/\n1{}")
	mustForm(t, 9, "person/1 0{}")
	mustForm(t, 3, "{a b: 1}")
	mustForm(t, 3, "[1 0]")
	mustForm(t, 1, `"\ n"`, `"\x 41"`, `"\x4 1"`)
}

// P2.2, 1: nothing where a value must come: at the end of all, blanks counted.
func TestNothing(t *testing.T) {
	for _, s := range []string{"", " ", " \t\n\r", "[", "[ ", "[1,", "[1, ", "[[],", "{a:", "{a: ", "{a: 1, b:\n", "c/1{a:", "[\t[ "} {
		mustRefuse(t, fault{s, len(s), api.ErrShort})
	}
}

// P2.2, 1: bytes that begin no value, at each place where one must come.
func TestNoBeginning(t *testing.T) {
	begins := " \t\n\r+-\"#@[{0123456789abcdefghijklmnopqrstuvwxyz"
	for c := range 256 {
		if strings.IndexByte(begins, byte(c)) >= 0 {
			continue
		}
		b := string([]byte{byte(c)})
		mustForm(t, 0, b, b+"1")
		mustForm(t, 4, "[1, "+b+"]", "{a: "+b+"}", "  \n\t"+b)
		if b != "]" {
			mustForm(t, 1, "["+b)
		}
	}
}

// P2.2, 1: how deep a value may lie.
func TestDeep(t *testing.T) {
	open, shut := strings.Repeat("[", 64), strings.Repeat("]", 64)
	mustRead(t, open+shut, sample.Within(64, api.List{}))
	mustRead(t, open[1:]+"7"+shut[1:], sample.Within(64, int64(7)))
	mustRead(t, "[nil, "+open[2:]+"7"+shut[2:]+", 8]", api.List{nil, sample.Within(63, int64(7)), int64(8)})
	fields := strings.Repeat("{a: a/1{a:", 31) + "{a:"
	mustRead(t, fields+"7}"+strings.Repeat("}}", 31), sample.WithinFields(64, int64(7)))
	mustRefuse(t,
		fault{open + "[", 64, api.ErrLong}, fault{open + "7" + shut, 64, api.ErrLong}, fault{open + " nil", 65, api.ErrLong}, fault{open + strings.Repeat("[", 100000), 64, api.ErrLong},
		fault{open + " ", 65, api.ErrShort}, fault{open, 64, api.ErrShort}, fault{open + "A", 64, api.ErrLong}, fault{open + "01", 64, api.ErrLong}, fault{open + ",", 64, api.ErrLong}, fault{open + "A/1{}", 64, api.ErrLong},
		fault{open[1:] + "{a: 1}", 67, api.ErrLong}, fault{open[1:] + "{a: ?", 67, api.ErrLong}, fault{open[1:] + "{a", 65, api.ErrShort}, fault{open[1:] + "{a 1", 66, api.ErrForm}, fault{open[1:] + "{A: 1}", 64, api.ErrForm}, fault{open[1:] + "{0: 1}", 64, api.ErrName},
		fault{open[1:] + "a/1{a:1}", 69, api.ErrLong}, fault{open[1:] + "a/0{a:1}", 65, api.ErrArg},
	)
	mustRead(t, open[1:]+"{}"+shut[1:], sample.Within(64, api.Dict{}))
	mustRead(t, open[1:]+"a/1{}"+shut[1:], sample.Within(64, sample.Record("a", 1)))
}

// many is a text up to where the value of that number must come, in a list; its brackets are shut by one "]".
func many(number int) string {
	s, e := text.Print(sample.Numbered(number, nil))
	if e != api.OK {
		panic(e)
	}
	return strings.TrimSuffix(s, "nil]")
}

// P2.2, 1: how many parts there may be.
func TestManyParts(t *testing.T) {
	last := many(16383)
	for _, x := range []said{{nil, "nil"}, {int64(7), "7"}, {api.List{}, "[]"}, {sample.Record("a", 1), "a/1{}"}} {
		mustRead(t, last+x.s+"]", sample.Numbered(16383, x.v))
	}
	n := len(last)
	mustRefuse(t,
		fault{last + "nil, nil]", n + 5, api.ErrLong}, fault{last + "[7]]", n + 1, api.ErrLong}, fault{last + "{a:7}]", n + 3, api.ErrLong}, fault{last + "a/1{b:7}]", n + 6, api.ErrLong}, fault{last + "7,A", n + 2, api.ErrLong}, fault{last + "7, 01", n + 3, api.ErrLong}, fault{last + "7,]", n + 2, api.ErrLong},
		fault{last + "7, ", n + 3, api.ErrShort}, fault{last + "A", n, api.ErrForm}, fault{last + "{A:7}]", n + 1, api.ErrForm}, fault{last + "{_:7}]", n + 1, api.ErrName}, fault{last + "a/0{}]", n + 2, api.ErrArg}, fault{last + "7", n + 1, api.ErrShort},
	)
}

// P2.2, 1: how many values a list may have.
func TestManyItems(t *testing.T) {
	full := "[" + strings.Repeat("7,", api.MaxItems-1) + "7"
	want := sample.Items(api.MaxItems)
	for i := range want {
		want[i] = int64(7)
	}
	mustRead(t, full+"]", want)
	mustRead(t, "["+full+"],"+full+"],{}]", api.List{want, want, api.Dict{}})
	n := len(full)
	mustRefuse(t,
		fault{full + ",7]", n + 1, api.ErrLong}, fault{full + ", 7", n + 2, api.ErrLong}, fault{full + ",01]", n + 1, api.ErrLong}, fault{full + ",A", n + 1, api.ErrLong}, fault{full + ",]", n + 1, api.ErrLong},
		fault{full + ",", n + 1, api.ErrShort}, fault{full, n, api.ErrShort}, fault{full + ";", n, api.ErrForm}, fault{"[nil, " + full + ",7]", n + 7, api.ErrLong},
	)
}

// P2.2, 1 and 6: how many fields a dict, or a record, may have: told at a name.
func TestManyFields(t *testing.T) {
	whole, e := text.Print(sample.Fields(api.MaxItems))
	if e != api.OK {
		t.Fatal(e)
	}
	for _, class := range []string{"", "c/1"} {
		full := class + strings.TrimSuffix(whole, "}")
		n := len(full)
		mustRefuse(t,
			fault{full + ",g:7}", n + 1, api.ErrLong}, fault{full + ", g", n + 2, api.ErrLong}, fault{full + ",0:7}", n + 1, api.ErrLong}, fault{full + ",a:7}", n + 1, api.ErrLong}, fault{full + "," + strings.Repeat("g", 33), n + 1, api.ErrLong},
			fault{full + ",}", n + 1, api.ErrForm}, fault{full + ",G", n + 1, api.ErrForm}, fault{full + ",", n + 1, api.ErrShort}, fault{full, n, api.ErrShort}, fault{full + ":", n, api.ErrForm},
		)
	}
	mustRead(t, whole, sample.Fields(api.MaxItems))
	mustRead(t, "c/1"+whole, sample.Record("c", 1, sample.Fields(api.MaxItems)...))
}

// P2.2, 2: a number is an int64's text or a float's, and no other.
func TestNumbers(t *testing.T) {
	wrong := []string{
		"01", "00", "-01", "-00", "-0", "+0", "+1", "-", "+", "--1", "+-1", "1-1", "1+1", "1-", "1+", "1a", "1e5", "1.", "1.5", "-1.5", "1.0", "1..2", "0b1", "0o7", "0x", "0xff", "9223372036854775808", "-9223372036854775809", "+9223372036854775807", "18446744073709551615", "99999999999999999999", "0.", "7z",
		"+Inf", "+infinity", "-infinity", "+in", "-inf0", "+inf+", "+nan", "-nan", "+nan(7ff8000000000001)", "+i", "-INF",
		"0x1", "0x1p", "0x1p+", "0x1p+0", "0x1p-0", "0x1p00", "0x1p0", "0x1p+1", "0x1p+000", "0x1p+010", "0x1p-00", "0x1.p+00", "0x1.0p+00", "0x1.80p+01", "0x1.8p+1", "0x.8p+01", "0x2p+00", "0x0.8p+01", "0x3p+00", "0x10p+00", "01x1p+00", "0x01p+00", "0x0p+01", "0x0p-00", "0x0p+0", "0x0.0p+00", "-0x0p-00", "-0x0", "+0x1p+00", "+0x0p+00",
		"0x1p+1024", "-0x1p+1024", "0x1.fffffffffffff8p+1023", "0x1p-1075", "0x1.8p-1074", "0x1.8p-1075", "0x0.8p-1073", "0x1.00000000000001p+00", "0x1.00000000000008p+00", "0x1.fffffffffffffp-1023", "0x1p+99999999999999999999", "0x1p+01.", "0x1p+01-", "0x1.8.8p+01", "0x1P+00", "0x1.8Ap+01", "0x1.gp+00", "1p+00", "0x1p+0_1",
		strings.Repeat("1", 100000), "0x1." + strings.Repeat("0", 100000) + "p+00", "-" + strings.Repeat("0", 1000) + "1", "1e999999999", "1e-999999999",
	}
	mustForm(t, 0, wrong...)
	for _, s := range wrong {
		mustRefuse(t, fault{"[7, " + s + "]", 4, api.ErrForm}, fault{" {a:" + s + ",", 4, api.ErrForm})
	}
	for _, s := range []string{"0X1p+00", "0_1", "1_000", "1A", "0/1{}", "1(", "7\x00", "7:", "7\"\""} { // the number ends at its second byte
		v, n, e := text.First(s)
		if e != api.OK || n != 1 || !value.Same(v, int64(s[0]-'0')) {
			t.Errorf("First(%s): %v, %d, %d", s, v, n, e)
		}
		if v, at, e := text.Parse(s); v != nil || at != 1 || e != api.ErrMore {
			t.Errorf("Parse(%s): %v, %d, %d", s, v, at, e)
		}
	}
}

// P2.2, 3: words.
func TestWords(t *testing.T) {
	mustForm(t, 0, "person", "a", "z", "nul", "nill", "niltrue", "nil_", "nil0", "true1", "truefalse", "fals", "f", "n", "inf", "nan", "nan0", "nan_(7ff8000000000001)", "nan)", "a_1", "aA/1{}", "aé/1{}", strings.Repeat("a", 33), strings.Repeat("a", 100000), "a.b", "a-b", "x(")
	mustRefuse(t, fault{"[nil, nul]", 6, api.ErrForm}, fault{"{a: person", 4, api.ErrForm})
	for _, x := range []said{{nil, "nil"}, {true, "true"}, {false, "false"}} {
		for _, behind := range []string{"A", "(", ".", "-", "é", "\x00", "[", "{", "\"", "@", "#", " /1{}"} {
			if v, n, e := text.First(x.s + behind); e != api.OK || n != len(x.s) || !value.Same(v, x.v) {
				t.Errorf("First(%s%s): %v, %d, %d", x.s, behind, v, n, e)
			}
		}
	}
}

// P2.2, 3: records.
func TestRecords(t *testing.T) {
	longest, long := strings.Repeat("a", api.MaxName), strings.Repeat("a", api.MaxName+1)
	mustRead(t, longest+"/1{}", sample.Record(longest, 1))
	mustRead(t, "nil/1{}", sample.Record("nil", 1))
	mustRead(t, "true/1{}", sample.Record("true", 1))
	mustRead(t, "nan/1{}", sample.Record("nan", 1))
	mustRead(t, "a_9/1000 \n { } ", sample.Record("a_9", 1000))
	mustRefuse(t,
		fault{long + "/1{}", 0, api.ErrName}, fault{long + "/", 0, api.ErrName}, fault{long + "/0{}", 0, api.ErrName}, fault{"[ " + long + "/1{}]", 2, api.ErrName},
		fault{"a/", 2, api.ErrShort}, fault{"nil/", 4, api.ErrShort}, fault{"[nil, ab/", 9, api.ErrShort}, fault{"a/1", 3, api.ErrShort}, fault{"a/1 ", 4, api.ErrShort}, fault{"a/1{", 4, api.ErrShort},
		fault{"person/0{}", 7, api.ErrArg}, fault{"a/0", 2, api.ErrArg}, fault{"a/0x", 2, api.ErrArg}, fault{"a/1001{}", 2, api.ErrArg}, fault{"a/1001", 2, api.ErrArg}, fault{"a/9999999999999999999999{}", 2, api.ErrArg}, fault{"a/18446744073709551617{}", 2, api.ErrArg}, fault{"a/4294967297{}", 2, api.ErrArg}, fault{"a/" + strings.Repeat("1", 100000), 2, api.ErrArg}, fault{"[a/0{}]", 3, api.ErrArg},
		fault{"a/1{a:b/0{}}", 8, api.ErrArg}, fault{"a/1{A:1}", 4, api.ErrForm}, fault{"a/1{b:1,a:1}", 8, api.ErrName},
	)
	mustForm(t, 2, "a/ ", "a/ 1{}", "a/x", "a/x{}", "a/-1{}", "a/+1{}", "a/01{}", "a/00{}", "a/00", "a/01", "a/0000000001{}", "a/{}", "a//1{}", "a/_1{}", "a/\"1\"{}", "a/09999999999999999999999{}")
	mustForm(t, 3, "a/1x", "a/1[]", "a/1}", "a/1,", "a/1:{}", "a/1.0{}", "a/1/1{}", "a/1\v{}")
	mustForm(t, 4, "a/1 1{}", "a/1 [")
	mustForm(t, 0, "A/1{}", "_a/1{}", "/1{}", "1a/1{}", "é/1{}", "a /1{}")
}

// P2.2, 3: NaNs.
func TestNaNs(t *testing.T) {
	mustForm(t, 0, "nan(", "nan()", "nan(7ff8000000000001", "nan(7", "nan(7ff800000000001)", "nan(07ff8000000000001)", "nan(7ff80000000000010)", "nan(7FF8000000000001)", "nan(7ff000000000000A)", "nan(7ff0000000000000)", "nan(fff0000000000000)", "nan(0000000000000000)", "nan(0000000000000001)", "nan(3ff0000000000000)", "nan(7fefffffffffffff)", "nan(ffffffffffffffff0)", "nan(fffffffffffffffff)", "nan(0ffffffffffffffff)", "nan(7ff8000000000001]", "nan(0x7ff8000000000001)", "nan(+7ff800000000001)", "nan(7ff_8000000000001)", "nan((7ff8000000000001)", "nan("+strings.Repeat("f", 100000)+")", "nano(7ff8000000000001)")
	mustRefuse(t, fault{"[ nan(7ff0000000000000)]", 2, api.ErrForm}, fault{"[nan(7ff8000000000001", 1, api.ErrForm})
	mustRead(t, "[nan(7ff8000000000001),nan(fff0000000000001)]", api.List{sample.Bits(0x7ff8000000000001), sample.Bits(0xfff0000000000001)})
}

// P2.2, 4: strings: which bytes may stand there, and which escapes.
func TestStrings(t *testing.T) {
	for c := range 256 {
		b := string([]byte{byte(c)})
		mustRead(t, fmt.Sprintf(`"\x%02x"`, c), b)
		mustRead(t, fmt.Sprintf(`"0\x%02x0"`, c), "0"+b+"0")
		if c < 0x20 || c > 0x7e {
			mustForm(t, 3, `"ab`+b+`"`, `"\n`+b, `"ab`+b+`\q`)
		} else if b != `"` && b != `\` {
			mustRead(t, `"`+b+`"`, b)
		}
		if !strings.Contains(`"\ntrx`, b) {
			mustForm(t, 2, `"a\`+b+`"`, `"a\`+b, `"a\`+b+`\`)
		}
		if !strings.Contains("0123456789abcdef", b) {
			mustForm(t, 1, `"\x`+b+`0"`, `"\x0`+b+`"`, `"\xf`+b, `"\x`+b)
		}
	}
	mustRead(t, `"\"\\\n\t\r"`, "\"\\\n\t\r")
	mustRead(t, `"\\n\\x41"`, `\n\x41`)
	mustRead(t, `"[1, {a: 2}] nil"`, "[1, {a: 2}] nil")
	for _, s := range []string{`"`, `"a`, `"\`, `"\x`, `"\x4`, `"\x41`, `"\"`, `"\\`, `"\\\"`, `["a", "b`, `{a: "\`, `"a b `} {
		mustRefuse(t, fault{s, len(s), api.ErrShort})
	}
	mustForm(t, 1, `"\q"`, `"\q`, `"\N"`, `"\X41"`, `"\u0041"`, `"\0"`, `"\'"`, `"\x"`, `"\x4"`, `"\x4`+"\n", `"\ "`, "\"\n\"")
}

// P2.2, 4: how long a string may be, and which error of a long one comes first.
func TestLongStrings(t *testing.T) {
	most := strings.Repeat("x", api.MaxText)
	mustRead(t, `"`+most+`"`, most)
	mustRead(t, `"`+strings.Repeat(`\x00`, api.MaxText)+`"`, strings.Repeat("\x00", api.MaxText))
	n := len(most)
	mustRefuse(t,
		fault{`"` + most + `x"`, 0, api.ErrLong}, fault{`"` + most + `\n"`, 0, api.ErrLong}, fault{`[7, "` + most + `x"`, 4, api.ErrLong}, fault{`"` + most + most + `"`, 0, api.ErrLong},
		fault{`"` + most + `x`, n + 2, api.ErrShort}, fault{`"` + most + `xyz\`, n + 5, api.ErrShort}, fault{`"` + most + "xy\x00\"", n + 3, api.ErrForm}, fault{`"` + most + `xy\q"`, n + 3, api.ErrForm},
	)
}

// P2.2, 5: bytes and refs.
func TestBytesAndRefs(t *testing.T) {
	most := strings.Repeat("0f", api.MaxText)
	want := make([]byte, api.MaxText)
	for i := range want {
		want[i] = 15
	}
	mustRead(t, "#"+most, want)
	mustRead(t, "#0123456789abcdef", []byte{0x01, 0x23, 0x45, 0x67, 0x89, 0xab, 0xcd, 0xef})
	mustRead(t, "[#,#]", api.List{[]byte{}, []byte{}})
	mustForm(t, 0, "#0", "#000", "#0g", "#0A", "#a", "#0 0", "#"+most+"0", "#"+most+"000")
	mustRefuse(t, fault{"#" + most + "00", 0, api.ErrLong}, fault{"#" + most + most, 0, api.ErrLong}, fault{"[7, #" + most + "00", 4, api.ErrLong}, fault{"[7, #1", 4, api.ErrForm}, fault{"[#x]", 2, api.ErrForm})
	mustForm(t, 0, "@", "@ 1", "@a", "@-1", "@+1", "@01", "@00", "@000", "@18446744073709551616", "@99999999999999999999", "@184467440737095516150", "@018446744073709551615", "@"+strings.Repeat("9", 100000), "@@1", "@_1")
	mustRefuse(t, fault{"[@]", 1, api.ErrForm}, fault{"{a: @01}", 4, api.ErrForm})
	for _, x := range []struct {
		s string
		v any
		n int
	}{{"#00A", []byte{0}, 3}, {"# 00", []byte{}, 1}, {"#g", []byte{}, 1}, {"##", []byte{}, 1}, {"@1a", api.Ref(1), 2}, {"@1.5", api.Ref(1), 2}, {"@1@2", api.Ref(1), 2}, {"@0x1", api.Ref(0), 2}, {" @18446744073709551615 6", api.Ref(1<<64 - 1), 22}} {
		if v, n, e := text.First(x.s); e != api.OK || n != x.n || !value.Same(v, x.v) {
			t.Errorf("First(%s): %v, %d, %d", x.s, v, n, e)
		}
	}
}

// P2.2, 6: commas, brackets, colons.
func TestMarks(t *testing.T) {
	mustRefuse(t,
		fault{"[1,]", 3, api.ErrForm}, fault{"[1 2]", 3, api.ErrForm}, fault{"[1;2]", 2, api.ErrForm}, fault{"[,1]", 1, api.ErrForm}, fault{"[,]", 1, api.ErrForm}, fault{"[1,,2]", 3, api.ErrForm}, fault{"[1, ]", 4, api.ErrForm}, fault{"[1}", 2, api.ErrForm}, fault{"[}", 1, api.ErrForm}, fault{"[[]", 3, api.ErrShort}, fault{"[1", 2, api.ErrShort}, fault{"[1 ", 3, api.ErrShort}, fault{"[1)", 2, api.ErrForm}, fault{"[[1]2]", 4, api.ErrForm}, fault{"[a: 1]", 1, api.ErrForm}, fault{"[1: 2]", 2, api.ErrForm}, fault{`["a""b"]`, 4, api.ErrForm}, fault{"[1[", 2, api.ErrForm},
		fault{"{", 1, api.ErrShort}, fault{"{ ", 2, api.ErrShort}, fault{"{]", 1, api.ErrForm}, fault{"{,", 1, api.ErrForm}, fault{"{:", 1, api.ErrForm}, fault{"{a", 2, api.ErrShort}, fault{"{a ", 3, api.ErrShort}, fault{"{a}", 2, api.ErrForm}, fault{"{a,", 2, api.ErrForm}, fault{"{a=1}", 2, api.ErrForm}, fault{"{a 1}", 3, api.ErrForm}, fault{"{a:}", 3, api.ErrForm}, fault{"{a::1}", 3, api.ErrForm}, fault{"{a: 1", 5, api.ErrShort}, fault{"{a: 1 ", 6, api.ErrShort}, fault{"{a: 1]", 5, api.ErrForm}, fault{"{a: 1 b: 2}", 6, api.ErrForm}, fault{"{a: 1;", 5, api.ErrForm}, fault{"{a: 1,}", 6, api.ErrForm}, fault{"{a: 1, }", 7, api.ErrForm}, fault{"{a: 1,", 6, api.ErrShort}, fault{"{a: 1, ", 7, api.ErrShort}, fault{"{a: 1,, b: 2}", 6, api.ErrForm}, fault{"{a: 1, b}", 8, api.ErrForm}, fault{"{1}", 1, api.ErrName}, fault{"{{}: 1}", 1, api.ErrForm}, fault{"{a: {b: 1}", 10, api.ErrShort},
	)
}

// P2.2, 6: names: that they are, and that they rise.
func TestNames(t *testing.T) {
	longest, long := strings.Repeat("a", api.MaxName), strings.Repeat("a", api.MaxName+1)
	for _, name := range sample.GoodNames() {
		mustRead(t, "{"+name+": 7}", api.Dict{sample.Field(name, int64(7))})
	}
	mustRead(t, "{a: 1, a0: 2, a_: 3, aa: 4, "+longest+": 5}", api.Dict{sample.Field("a", int64(1)), sample.Field("a0", int64(2)), sample.Field("a_", int64(3)), sample.Field("aa", int64(4)), sample.Field(longest, int64(5))})
	mustRefuse(t,
		fault{"{0: 1}", 1, api.ErrName}, fault{"{9a: 1}", 1, api.ErrName}, fault{"{_: 1}", 1, api.ErrName}, fault{"{_a", 1, api.ErrName}, fault{"{" + long + ": 1}", 1, api.ErrName}, fault{"{ " + long, 2, api.ErrName}, fault{"{a: 1, 0: 1}", 7, api.ErrName},
		fault{"{A: 1}", 1, api.ErrForm}, fault{"{aA: 1}", 2, api.ErrForm}, fault{"{é: 1}", 1, api.ErrForm}, fault{`{"a": 1}`, 1, api.ErrForm}, fault{"{a-b: 1}", 2, api.ErrForm}, fault{"{-: 1}", 1, api.ErrForm}, fault{"{a: 1, A: 2}", 7, api.ErrForm},
		fault{"{b: 1, a: 2}", 7, api.ErrName}, fault{"{a: 1, a: 2}", 7, api.ErrName}, fault{"{a: 1, a", 7, api.ErrName}, fault{"{aa: 1, a: 2}", 8, api.ErrName}, fault{"{a_: 1, a0: 2}", 8, api.ErrName}, fault{"{aa: 1, a_: 2}", 8, api.ErrName}, fault{"{a: 1, c: 1, b: 1}", 13, api.ErrName},
		fault{"{b: ?, a: 2}", 4, api.ErrForm}, fault{"{b: 01, 0: 2}", 4, api.ErrForm}, fault{"{b: {d: 1, c: 1}, a: 2}", 11, api.ErrName}, fault{"{b 1, a: 2}", 3, api.ErrForm},
	)
	mustRead(t, "[{b: 1}, {a: {a: 1}}]", api.List{api.Dict{sample.Field("b", int64(1))}, api.Dict{sample.Field("a", api.Dict{sample.Field("a", int64(1))})}})
}

// P2.2, 7: something behind the value: Parse alone minds it.
func TestBehind(t *testing.T) {
	for _, x := range []struct {
		s     string
		v     any
		n, at int
	}{
		{"1 2", int64(1), 1, 2}, {"1,", int64(1), 1, 1}, {" 7, 8", int64(7), 2, 2}, {"nil nil", nil, 3, 4}, {"[] ]", api.List{}, 2, 3}, {"[]\n\t [", api.List{}, 2, 5}, {"{}}", api.Dict{}, 2, 2}, {"a/1{}x", sample.Record("a", 1), 5, 5}, {"a/1{} {", sample.Record("a", 1), 5, 6}, {`"a""`, "a", 3, 3}, {`"" \`, "", 2, 3}, {"1\x00", int64(1), 1, 1}, {"1\v", int64(1), 1, 1}, {"1 \xff", int64(1), 1, 2}, {"1\u00a0", int64(1), 1, 1}, {"nil/1{}/", sample.Record("nil", 1), 7, 7}, {"nan(7ff8000000000001)x", sample.Bits(0x7ff8000000000001), 21, 21}, {"nan(7ff8000000000001))", sample.Bits(0x7ff8000000000001), 21, 21}, {"+inf _", sample.Bits(0x7ff0000000000000), 4, 5}, {"nil A", nil, 3, 4}, {"true\r\n\r\n.", true, 4, 8},
	} {
		if v, n, e := text.First(x.s); e != api.OK || n != x.n || !value.Same(v, x.v) {
			t.Errorf("First(%q): %v, %d, %d", x.s, v, n, e)
		}
		if v, at, e := text.Parse(x.s); v != nil || at != x.at || e != api.ErrMore {
			t.Errorf("Parse(%q): %v, %d, %d", x.s, v, at, e)
		}
	}
}

// P2.2: an error within comes ahead of all that stands behind it.
func TestFirstErrorFromTheLeft(t *testing.T) {
	mustRefuse(t, fault{"[01, A, #0", 1, api.ErrForm}, fault{`[@, "`, 1, api.ErrForm}, fault{"[a/0{b:1,a:2}", 3, api.ErrArg}, fault{"{0: 01}", 1, api.ErrName}, fault{`["a\q", 01`, 3, api.ErrForm}, fault{"[[[[,", 4, api.ErrForm}, fault{"[1 2", 3, api.ErrForm}, fault{"a/1[", 3, api.ErrForm}, fault{"[nul, ", 1, api.ErrForm})
}
