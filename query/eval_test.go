package query_test

import (
	"math"
	"strings"
	"testing"

	"tenon/api"
	"tenon/query"
	"tenon/sample"
	"tenon/value"
)

// ann is a record of which most sorts of fields can be asked.
func ann() *api.Record {
	return sample.Record("person", 2, dict("age", int64(30), "boss", api.Ref(7), "data", []byte{1, 2}, "dead", nil, "home", dict("street", "elm", "zip", int64(7)), "kids", api.List{"bob", "eve"}, "name", "ann", "real", true, "size", 1.75)...)
}

// P17.3: what stands under a name, or at a position.
func TestWays(t *testing.T) {
	for s, want := range map[string]any{
		"age": int64(30), "name": "ann", "dead": nil, "gone": nil, "self": ann(), "self.age": int64(30), "self.gone": nil, `self["age"]`: int64(30), `self["gone"]`: nil,
		"home": dict("street", "elm", "zip", int64(7)), "home.zip": int64(7), `home["zip"]`: int64(7), "home.or": nil, `home[home.street]`: nil, `self[first(["age"])]`: int64(30),
		"kids[0]": "bob", "kids[1]": "eve", "kids[2]": nil, "kids[-1]": "eve", "kids[-2]": "bob", "kids[-3]": nil, "kids[9223372036854775807]": nil, "kids[-9223372036854775807]": nil, "kids[-9223372036854775807 - 1]": nil, "[][0]": nil, "[][-1]": nil, "[nil][0]": nil, "[1, 2, 3][age - 31]": int64(3),
		`self[""]`: nil, `self["Age"]`: nil, `self["a b"]`: nil, `self["1"]`: nil, `self["or"]`: nil, `self["` + strings.Repeat("a", 33) + `"]`: nil, `self["` + strings.Repeat("a", 40000) + `"]`: nil,
		"keys(self)[0]": "age", `[[1, [2]]][0][1][0]`: int64(2),
	} {
		mustAnswer(t, s, ann(), want)
	}
	for s, at := range map[string]int{
		"age.a": 3, "dead.a": 4, "gone.a": 4, "name.a": 4, "kids.a": 4, "boss.a": 4, "data.a": 4, "real.a": 4, "size.a": 4, "home.zip.a": 8, "self.age.a.b": 8, "[self].a": 6,
		"age[0]": 3, "name[0]": 4, "self[0]": 4, "home[0]": 4, "dead[0]": 4, "data[0]": 4, "kids[0x1p-01]": 4, "kids[0x0p+00]": 4, `kids["0"]`: 4, `kids["a"]`: 4, "kids[nil]": 4, "kids[kids]": 4, "kids[true]": 4, "self[nil]": 4, "self[self]": 4, "self[#]": 4, "self[@1]": 4, `name["a"]`: 4, `age["a"]`: 3, `dead["a"]`: 4, `dead["A"]`: 4, `data[""]`: 4,
		"[1][gone.a]": 8, "kids[0][0]": 7,
	} {
		mustNotRun(t, s, ann(), at)
	}
	for _, v := range sample.Rising() {
		switch value.Kind(v) {
		case api.KDict, api.KRecord:
			mustAnswer(t, "zz", v, nil)
			mustAnswer(t, `self["zz"]`, v, nil)
			mustAnswer(t, `self["Zz"]`, v, nil)
			mustNotRun(t, "self[0]", v, 4)
		case api.KList:
			mustAnswer(t, "self[77]", v, nil)
			mustNotRun(t, " zz", v, 1)
			mustNotRun(t, " self . zz", v, 6)
		default:
			mustNotRun(t, " zz", v, 1)
			mustNotRun(t, " self . zz", v, 6)
			mustNotRun(t, `self["zz"]`, v, 4)
			mustNotRun(t, "self[0]", v, 4)
		}
	}
}

// P17.3: lists, and what stands for itself.
func TestPlain(t *testing.T) {
	for _, v := range sample.Rich() {
		mustAnswer(t, "self", v, v)
		mustAnswer(t, "(self)", v, v)
	}
	for _, v := range constants() {
		e := sample.Fixed(v)
		e.At = -5
		mustTell(t, e, "whatever", v)
	}
	mustAnswer(t, "[]", nil, api.List{})
	mustAnswer(t, "[nil]", nil, api.List{nil})
	mustAnswer(t, `[1, "a", [#00, [@3]], self, -1]`, true, api.List{int64(1), "a", api.List{[]byte{0}, api.List{api.Ref(3)}}, true, int64(-1)})
	mustAnswer(t, "[self, self]", api.List{nil}, api.List{api.List{nil}, api.List{nil}})
	mustNotRun(t, "[1, a, b]", nil, 4)
	mustNotRun(t, "[1, 1 / 0, b]", nil, 6)
}

// P17.3: what holds, and which parts aren't asked.
func TestTruths(t *testing.T) {
	for s, want := range map[string]bool{
		"true or true": true, "true or false": true, "false or true": true, "false or false": false, "true and true": true, "true and false": false, "false and true": false, "false and false": false, "not true": false, "not false": true, "not not true": true,
		"true or 1": true, "true or nil.a": true, "true or 1 / 0 = 1": true, "false and 1": false, "false and nil.a": false, "false and 1 / 0 = 1": false,
		"true or 1 or 2": true, "false or true or 1": true, "false and 1 and 2": false, "true and false and 1": false, "false and 1 or true": true, "true or 1 and 2": true, "(true or 1) and (false or true)": true, "not (true or 1)": false,
	} {
		mustAnswer(t, s, nil, want)
	}
	for s, at := range map[string]int{
		"1 or true": 2, "nil or true": 4, `"" and true`: 3, "1 and false": 2, "false or 1": 6, "true and 1": 5, "true and nil": 5, "false or nil": 6, "false or false or 1": 15, "1 or true or true": 2, "true and true and 1": 14, "false or (true and 1)": 15, "not 1": 0, "not nil": 0, "not not 1": 4, "not [true]": 0, `not "true"`: 0, "not 0": 0,
		"false or 1 / 0": 11, "true and a": 9, "a or true": 0, "not a": 4, "1 / 0 or true": 2, "1 or 1 / 0": 2, "1 and 1 / 0": 2,
	} {
		mustNotRun(t, s, nil, at)
	}
	for _, v := range sample.Rising() {
		if value.Kind(v) != api.KBool {
			mustNotRun(t, "self or true", v, 5)
			mustNotRun(t, "self and false", v, 5)
			mustNotRun(t, "false or self", v, 6)
			mustNotRun(t, "true and self", v, 5)
			mustNotRun(t, " not self", v, 1)
		}
		mustAnswer(t, "true or self", v, true)
		mustAnswer(t, "false and self", v, false)
	}
}

// P17.3: the same, or the same number.
func TestSame(t *testing.T) {
	for _, a := range sample.Rising() {
		for _, b := range sample.Rising() {
			same := value.Same(a, b)
			x, isX := exact(a)
			y, isY := exact(b)
			if value.Kind(a) != value.Kind(b) && isX && isY {
				same = x.Cmp(y) == 0
			}
			mustAnswer(t, "self[0] = self[1]", api.List{a, b}, same)
			mustAnswer(t, "self[0] != self[1]", api.List{a, b}, !same)
			mustAnswer(t, "self[0] in [self[1]]", api.List{a, b}, same)
		}
	}
	nan, minus := math.NaN(), sample.MinusZero()
	for _, x := range []struct {
		s    string
		v    any
		want bool
	}{
		{"0 = self", minus, true}, {"self = 0", minus, true}, {"self = 0x0p+00", minus, false}, {"self = -0x0p+00", minus, true}, {"self = self", nan, true}, {"self = 0x0p+00 / 0", sample.Bits(0x7ff8000000000001), true}, {"self = 0x0p+00 / 0", sample.Bits(0xfff8000000000000), false}, {"1 = self", nan, false}, {"self != 1", nan, true}, {"self != self", nan, false},
		{"9007199254740993 = self", float64(1 << 53), false}, {"9007199254740992 = self", float64(1 << 53), true}, {"9223372036854775807 = self", float64(1 << 63), false}, {"-9223372036854775807 - 1 = self", -float64(1 << 63), true}, {"1 = self", math.Inf(1), false}, {"1 = self", 1.5, false},
		{"[1] = self", api.List{1.0}, false}, {"[1] = self", api.List{int64(1)}, true}, {"self = [0]", api.List{minus}, false}, {"self = self", ann(), true}, {"self = home", ann(), false}, {"[] = self", dict(), false}, {"nil = self", api.List{}, false}, {`"" = self`, []byte{}, false}, {"# = self", []byte(nil), true}, {"0 = self", api.Ref(0), false}, {"0 = self", false, false},
	} {
		mustAnswer(t, x.s, x.v, x.want)
	}
}

// P17.3: what comes ahead of what.
func TestHeld(t *testing.T) {
	for _, x := range [][3]string{
		{"1", "<", "2"}, {"2", "=", "2"}, {"3", ">", "2"}, {"-1", "<", "1"}, {"1", "=", "0x1p+00"}, {"1", "<", "0x1.8p+00"}, {"2", ">", "0x1.8p+00"}, {"0x1p+00", "<", "0x1p+01"}, {"-0x0p+00", "=", "0x0p+00"}, {"-0x0p+00", "=", "0"}, {"0", "=", "-0x0p+00"},
		{`"a"`, "<", `"b"`}, {`"a"`, "=", `"a"`}, {`"b"`, ">", `"ab"`}, {`""`, "<", `"a"`}, {`"B"`, "<", `"a"`}, {`"\xc3\xa4"`, ">", `"z"`}, {"#", "<", "#00"}, {"#ff", ">", "#00ff"}, {"#01", "=", "#01"}, {"false", "<", "true"}, {"true", "=", "true"}, {"true", ">", "false"},
		{"9007199254740993", ">", "0x1p+53"}, {"9007199254740992", "=", "0x1p+53"}, {"9007199254740991", "<", "0x1p+53"}, {"0x1p+53", "<", "9007199254740993"}, {"9223372036854775807", "<", "0x1p+63"}, {"-9223372036854775807", ">", "-0x1p+63"}, {"(-9223372036854775807 - 1)", "=", "-0x1p+63"}, {"1", "<", "(0x1p+00 / 0)"}, {"(0x1p+00 / 0)", ">", "9223372036854775807"}, {"(-0x1p+00 / 0)", "<", "-9223372036854775807"}, {"(0x1p+00 / 0)", "=", "(0x1p+00 / 0)"},
		{"1", "", "(0x0p+00 / 0)"}, {"(0x0p+00 / 0)", "", "1"}, {"(0x0p+00 / 0)", "", "(0x0p+00 / 0)"}, {"(0x0p+00 / 0)", "", "0x1p+00"},
	} {
		a, want, b := x[0], x[1], x[2]
		mustAnswer(t, a+" < "+b, nil, want == "<")
		mustAnswer(t, a+" <= "+b, nil, want == "<" || want == "=")
		mustAnswer(t, a+" > "+b, nil, want == ">")
		mustAnswer(t, a+" >= "+b, nil, want == ">" || want == "=")
	}
	can := func(a, b any) bool {
		x, y := value.Kind(a), value.Kind(b)
		return isNumber(a) && isNumber(b) || x == y && (x == api.KText || x == api.KBytes || x == api.KBool)
	}
	for _, a := range sample.Rising() {
		for _, b := range sample.Rising() {
			if !can(a, b) {
				for _, op := range []string{"<", "<=", ">", ">="} {
					mustNotRun(t, "self[0] "+op+" self[1]", api.List{a, b}, 8)
				}
			}
		}
	}
}

// P17.3: what lies in a list, or is a name under which something stands.
func TestIn(t *testing.T) {
	for s, want := range map[string]bool{
		"1 in []": false, "1 in [2, 1]": true, "1 in [0x1p+00]": true, "0x1p+00 in [2, 1]": true, "-0x0p+00 in [0]": true, "-0x0p+00 in [0x0p+00]": false, `"1" in [1]`: false, "nil in []": false, "nil in [nil]": true, "[] in [[]]": true, "[] in []": false, "1 in [[1]]": false, "[1] in [[0x1p+00]]": false,
		`"age" in self`: true, `"gone" in self`: false, `"dead" in self`: true, `"Age" in self`: false, `"" in self`: false, `"zip" in home`: true, `"bob" in kids`: true, `"ann" in kids`: false, `"age" in keys(self)`: true, "age in [30]": true, "self in [self]": true,
	} {
		mustAnswer(t, s, ann(), want)
	}
	for s, at := range map[string]int{
		"1 in self": 2, "nil in self": 4, "#61 in self": 4, "[] in home": 3, "self in self": 5, "1 in 1": 2, `"a" in "abc"`: 4, "1 in nil": 2, "0 in #00": 2, `"a" in nil`: 4, "1 in true": 2, "@7 in boss": 3, `1 in "1"`: 2, `"a" in gone`: 4,
	} {
		mustNotRun(t, s, ann(), at)
	}
}

// P17.3: of what kind it is.
func TestIs(t *testing.T) {
	for _, v := range sample.Rising() {
		word := kindWords()[value.Kind(v)-1]
		for _, other := range kindWords() {
			mustAnswer(t, "self is "+other, v, word == other)
		}
		mustAnswer(t, "kind(self)", v, word)
		mustAnswer(t, `kind(self) = "`+word+`"`, v, true)
	}
	mustAnswer(t, "gone is nil", ann(), true)
	mustNotRun(t, "age.a is nil", ann(), 3)
}

// P17.3: sums, differences, products, quotients and rests.
func TestReckoned(t *testing.T) {
	inf, nan := math.Inf(1), sample.Bits(0x7ff8000000000001)
	for s, want := range map[string]any{
		"1 + 2": int64(3), "1 - 2": int64(-1), "3 * -4": int64(-12), "7 / 2": int64(3), "-7 / 2": int64(-3), "7 / -2": int64(-3), "-7 / -2": int64(3), "7 % 2": int64(1), "-7 % 2": int64(-1), "7 % -2": int64(1), "-7 % -2": int64(-1), "0 / 5": int64(0), "0 % 5": int64(0), "--5": int64(5), "-0": int64(0),
		"9223372036854775807 + 0": int64(math.MaxInt64), "9223372036854775806 + 1": int64(math.MaxInt64), "-9223372036854775807 - 1": int64(math.MinInt64), "-9223372036854775807 + -1": int64(math.MinInt64), "(-9223372036854775807 - 1) % -1": int64(0), "(-9223372036854775807 - 1) * 1": int64(math.MinInt64), "(-9223372036854775807 - 1) / 1": int64(math.MinInt64), "-4611686018427387904 * 2": int64(math.MinInt64), "3037000499 * 3037000499": int64(9223372030926249001), "-1 - (-9223372036854775807 - 1)": int64(math.MaxInt64), "9223372036854775807 / -1": int64(-math.MaxInt64),
		"1 + 0x1p+00": 2.0, "0x1p+00 + 1": 2.0, "0x1.8p+00 * 2": 3.0, "1 / 0x1p+01": 0.5, "1 - 0x1p-01": 0.5, "0x1p+00 / 0": inf, "1 / 0x0p+00": inf, "-1 / 0x0p+00": -inf, "1 / -0x0p+00": -inf, "0x0p+00 / 0": nan, "-(0x0p+00 / 0)": nan, "0x1p+00 / 0 - 0x1p+00 / 0": nan, "0 * (0x1p+00 / 0)": nan, "0x0p+00 / 0 + 1": nan, "-0x0p+00": sample.MinusZero(), "-0x0p+00 + 0": 0.0, "-0x0p+00 * 1": sample.MinusZero(), "0 * -0x1p+00": sample.MinusZero(), "-0x0p+00 - 0": sample.MinusZero(),
		"9223372036854775807 + 0x0p+00": float64(1 << 63), "9007199254740993 * 0x1p+00": float64(1 << 53), "9223372036854775807 + 1 * 0x1p+00": float64(1 << 63), "0x1.fffffffffffffp+1023 * 2": inf, "1 + 1 - 0x1p+00 + 1": 2.0,
		`"a" + "b"`: "ab", `"" + ""`: "", `"a" + "b" + "c"`: "abc", "[1] + [2, 3]": list(1, 2, 3), "[] + []": api.List{}, "[[1]] + []": api.List{list(1)}, "#01 + #0203": []byte{1, 2, 3}, "# + #": []byte{},
		"1 + 2 * 3": int64(7), "(1 + 2) * 3": int64(9), "10 - 4 - 3": int64(3), "100 / 10 / 5": int64(2), "17 % 10 % 4": int64(3), "2 * 7 % 5": int64(4), "-2 * 3": int64(-6),
	} {
		mustAnswer(t, s, nil, want)
	}
	for s, at := range map[string]int{
		"9223372036854775807 + 1": 20, "1 + 9223372036854775807": 2, "-9223372036854775807 - 2": 21, "-9223372036854775807 + -2": 21, "0 - (-9223372036854775807 - 1)": 2, "9223372036854775807 - -1": 20, "9223372036854775807 * 2": 20, "3037000500 * 3037000500": 11, "4611686018427387904 * 2": 20, "(-9223372036854775807 - 1) * -1": 27, "-1 * (-9223372036854775807 - 1)": 3, "(-9223372036854775807 - 1) / -1": 27, "-(-9223372036854775807 - 1)": 0, "4294967296 * 4294967296": 11,
		"1 / 0": 2, "0 / 0": 2, "1 % 0": 2, "0 % 0": 2, "1 % 0x1p+00": 2, "0x1p+00 % 1": 8, "0x1p+00 % 0x1p+00": 8, "1 / nil": 2, "nil + nil": 4, "true + true": 5, "@1 + @2": 3, `"a" + 1`: 4, `1 + "a"`: 2, `"a" + #61`: 4, "[1] + 1": 4, "1 + [1]": 2, `"a" - "b"`: 4, `"a" * 2`: 4, "[1] * 2": 4, "[1] - [1]": 4, "#01 - #01": 4, `"a" % "b"`: 4, "[1] + nil": 4, "self + self": 5, `-"a"`: 0, "-nil": 0, "-true": 0, "-[1]": 0, "- -#01": 2, "-@1": 0, `"" + []`: 3, "# + []": 2, "[] + #": 3,
		"1 + 9223372036854775807 - 1": 2, "1 + (2 + nil)": 7, "1 + 2 + nil": 6, "1 / 0 + 1 % 0": 2, "(1 + nil) * (2 + nil)": 3,
	} {
		mustNotRun(t, s, dict(), at)
	}
	for _, v := range sample.Rising() {
		for _, op := range []string{"-", "*", "/", "%", "+"} {
			if !isNumber(v) {
				mustNotRun(t, "self "+op+" 1", v, 5)
				mustNotRun(t, "0x1p+00 "+op+" self", v, 8)
			}
		}
		if !isNumber(v) {
			mustNotRun(t, " -self", v, 1)
		}
	}
}

// P17.3: functions that ask each part once.
func TestFunctions(t *testing.T) {
	for s, want := range map[string]any{
		"len(name)": int64(3), `len("")`: int64(0), `len("\xc3\xa4")`: int64(2), "len(data)": int64(2), "len(kids)": int64(2), "len([])": int64(0), "len(home)": int64(2), "len(self)": int64(9), "len(#)": int64(0),
		"kind(age)": "int", "kind(size)": "float", "kind(self)": "record", "kind(home)": "dict", "kind(kids)": "list", "kind(dead)": "nil", "kind(real)": "bool", "kind(boss)": "ref", "kind(data)": "bytes", "kind(name)": "text",
		"keys(home)": api.List{"street", "zip"}, "keys(self)": api.List{"age", "boss", "data", "dead", "home", "kids", "name", "real", "size"},
		"first(kids)": "bob", "last(kids)": "eve", "first([])": nil, "last([])": nil, "first([nil, 1])": nil, "last([[]])": api.List{}, "first([self]).age": int64(30),
		"sum([])": int64(0), "sum([1, 2, 3])": int64(6), "sum([1, 0x1p-01])": 1.5, "sum([-0x0p+00])": 0.0, "sum([0x0p+00 / 0, 1])": sample.Bits(0x7ff8000000000001), "sum([9223372036854775807, -1, 1])": int64(math.MaxInt64), "sum([9223372036854775807, 0x1p+00])": float64(1 << 63), "sum([0x1p+00, 9223372036854775807, 1])": float64(1 << 63),
		"least([])": nil, "most([])": nil, "least([2, 1, 3])": int64(1), "most([2, 3, 1])": int64(3), "least([1, 0x1p+00])": int64(1), "least([0x1p+00, 1])": 1.0, "most([1, 0x1p+00])": int64(1), "most([0x1p+00, 1])": 1.0, "least([0, -0x0p+00])": int64(0), "least([-0x0p+00, 0x0p+00])": sample.MinusZero(), "most([-0x0p+00, 0x0p+00])": sample.MinusZero(), "least(kids)": "bob", "most(kids)": "eve", "least([true, false])": false, "most([true, false])": true, "least([#01, #00ff])": []byte{0, 255}, "most([#01, #00ff])": []byte{1},
		"least([0x0p+00 / 0, 1])": sample.Bits(0x7ff8000000000001), "most([0x0p+00 / 0, 1])": sample.Bits(0x7ff8000000000001), "least([1, 0x0p+00 / 0, 0])": int64(0), "most([1, 0x0p+00 / 0, 2])": int64(2), "least([5])": int64(5), "least([0x0p+00 / 0])": sample.Bits(0x7ff8000000000001), `most([""])`: "",
		`has(self, "age")`: true, `has(self, "dead")`: true, `has(self, "gone")`: false, `has(home, "zip")`: true, `has(home, "age")`: false, `has(self, "Age")`: false, `has(self, "")`: false, `has(home, "` + strings.Repeat("z", 33) + `")`: false,
	} {
		mustAnswer(t, s, ann(), want)
	}
	for s, at := range map[string]int{
		"len(1)": 0, "len(nil)": 0, "len(true)": 0, "len(@1)": 0, "len(size)": 0, "keys(kids)": 0, "keys(name)": 0, "keys(nil)": 0, "first(name)": 0, "last(self)": 0, "first(nil)": 0, "last(data)": 0, "sum(self)": 0, "sum(1)": 0, "sum(nil)": 0, "least(nil)": 0, "most(self)": 0, "least(name)": 0,
		"sum([nil])": 0, "sum([1, nil])": 0, `sum(["a", "b"])`: 0, "sum([[1]])": 0, "sum([[], []])": 0, "sum([9223372036854775807, 1])": 0, "sum([9223372036854775807, 1, 0x1p+00])": 0, "sum([1, true])": 0,
		"least([nil])": 0, "most([nil])": 0, "least([[]])": 0, "most([self])": 0, "least([@1])": 0, `least([1, "a"])`: 0, `most(["a", 1])`: 0, "least([1, nil])": 0, "least([1, 2, nil])": 0, "most([true, 1])": 0, "most([#01, nil])": 0, "least([0x0p+00 / 0, true])": 0,
		`has(kids, "a")`: 0, `has(nil, "a")`: 0, `has("a", "a")`: 0, "has(self, 1)": 0, "has(self, nil)": 0, "has(self, self)": 0, "has(self, #61)": 0, "has(1, 1)": 0,
		"1 + len(2)": 4, " [first ( nil )]": 2, "len(age.b)": 7, "len(first(1))": 4,
	} {
		mustNotRun(t, s, ann(), at)
	}
	for _, v := range sample.Rising() {
		k := value.Kind(v)
		if k != api.KText && k != api.KBytes && k != api.KList && k != api.KDict && k != api.KRecord {
			mustNotRun(t, " len(self)", v, 1)
		}
		if k != api.KDict && k != api.KRecord {
			mustNotRun(t, " keys(self)", v, 1)
			mustNotRun(t, ` has(self, "a")`, v, 1)
		}
		if k != api.KText {
			mustNotRun(t, " has([self][0], self)", v, 1)
		}
		if k != api.KList {
			for _, f := range []string{"first", "last", "sum", "least", "most"} {
				mustNotRun(t, " "+f+"(self)", v, 1)
			}
			for _, f := range functions2()[1:] {
				mustNotRun(t, " "+f+"(self, true)", v, 1)
				mustNotRun(t, " "+f+"(self, 1 / 0)", v, 1)
			}
		}
	}
}

// P17.3: functions that ask their second part of each value.
func TestEach(t *testing.T) {
	for s, want := range map[string]any{
		"any([], true)": false, "all([], false)": true, "map([], 1 / 0)": api.List{}, "pick([], 1 / 0)": api.List{}, "any([], 1)": false, "all([], nil)": true,
		"any([1, 2, 3], self = 2)": true, "any([1, 2, 3], self = 4)": false, "all([1, 2, 3], self > 0)": true, "all([1, 2, 3], self > 1)": false, "map([1, 2, 3], self * self)": list(1, 4, 9), "pick([1, 2, 3], self > 1)": list(2, 3), "pick([1, 2, 3], false)": api.List{}, "map([1, 2], nil)": api.List{nil, nil}, "map([[1], []], len(self))": list(1, 0),
		// Up to the first that tells.
		`any([1, 2, "a"], self > 1)`: true, `all([1, 2, "a"], self > 1)`: false, "any([true, 1], self)": true, "all([false, 1], self)": false, "any([false, true, nil], self)": true,
		// A field is self's, and self is each value within alone.
		`map(kids, self + "!")`: api.List{"bob!", "eve!"}, "map([self, home], keys(self))[1]": api.List{"street", "zip"}, "pick([self, home], zip = 7)": api.List{dict("street", "elm", "zip", int64(7))}, "any([home], zip = 7) and age = 30": true, "map([self], age)": list(30), "map([home], self.zip)": list(7), "[self.age, first(map([home], self.zip)), self.age]": list(30, 7, 30),
		// Within one another.
		"map([[1, 2], [3]], map(self, self + 1))": api.List{list(2, 3), list(4)}, "map([[1, 2], [3]], sum(self))": list(3, 3), "any([[1], [2, 3]], all(self, self > 1))": true, "all([[1], [2, 3]], any(self, self > 1))": false, "pick([[1], [2, 3]], len(pick(self, self > 1)) = 2)": api.List{list(2, 3)}, "map(pick([1, 2, 3], self != 2), [self, map([self, 9], [self])])": api.List{api.List{int64(1), api.List{list(1), list(9)}}, api.List{int64(3), api.List{list(3), list(9)}}}, "map(map([1, 2], self + 1), self * 10)": list(20, 30), "map([1, 2], map([5], self))": api.List{list(5), list(5)}, "any(map(kids, len(self)), self = 3)": true,
	} {
		mustAnswer(t, s, ann(), want)
	}
	for s, at := range map[string]int{
		"any(1, true)": 0, "all(nil, true)": 0, "map(self, 1)": 0, "pick(name, true)": 0, "map(home, 1)": 0,
		"any([1], 1)": 0, "all([1], nil)": 0, "pick([1], self)": 0, "any([1], [])": 0, `pick([1], "true")`: 0, "pick([true, 1], self)": 0, "all([true, 1], self)": 0, "any([false, 1], self)": 0, "pick([1, 2], gone)": 13,
		"any([1], self.a)": 13, "map(kids, self + name)": 17, "map([1, nil], self + 1)": 19, "map([1, 2], 1 / 0)": 14, "map([1], name)": 9, " [any([1], all([2], 3))]": 11, "any([1], any([2], 3) or true)": 9, "all([1 / 0], nil)": 7, "map([2, 1, 0], 1 / self)": 17, `any([1, "a", 9], self > 5)`: 22, "map([[1], 2], map(self, self))": 14, "pick([[1], []], first(self) > 0)": 28,
	} {
		mustNotRun(t, s, ann(), at)
	}
}

// P17.3: parts are asked from the left to the right, each first: the first that can't go on is told.
func TestFirstPlace(t *testing.T) {
	for _, op := range append(signs(), "at") {
		wrong := func(at int) api.Expr {
			return api.Expr{Op: "neg", At: at, Parts: []api.Expr{sample.Fixed(nil)}}
		}
		e := api.Expr{Op: op, At: 3, Parts: []api.Expr{wrong(1), wrong(2)}}
		mustNotTell(t, e, nil, 1, api.ErrRun)
		switch op {
		case "or", "and":
		default:
			e.Parts[0] = sample.Fixed(nil)
			mustNotTell(t, e, nil, 2, api.ErrRun)
		}
	}
	mustNotRun(t, "[1 / 0, 1 % 0]", nil, 3)
	mustNotRun(t, "has(1 / 0, 1 % 0)", nil, 6)
	mustNotRun(t, "has(nil, 1 % 0)", nil, 11)
	mustNotRun(t, "any(1 / 0, 1 % 0)", nil, 6)
	mustNotRun(t, "any(1, 1 % 0)", nil, 0)
	mustNotRun(t, "any([1], 1 % 0)", nil, 11)
	mustNotRun(t, "nil + (1 / 0)", nil, 9)
}

// P17.3: places are those of the expression, whatever they are.
func TestPlaces(t *testing.T) {
	for _, at := range []int{math.MinInt, -1, 0, 7, math.MaxInt} {
		e := api.Expr{Op: "neg", At: at, Parts: []api.Expr{sample.Fixed("a")}}
		mustNotTell(t, e, nil, at, api.ErrRun)
		e.Parts[0].Value = sample.Term(int64(3))
		mustTell(t, e, nil, int64(-3))
		mustNotTell(t, sample.Expr("list", e, api.Expr{Op: "field", At: at, Name: "a"}), nil, at, api.ErrRun)
	}
}

// P17.3: Match of all that is no bool.
func TestMatch(t *testing.T) {
	for _, v := range sample.Rising() {
		e := api.Expr{Op: "self", At: 9}
		is, at, why := query.Match(e, v)
		switch v {
		case true, false:
			if is != v || at != 0 || why != api.OK {
				t.Error(v, is, at, why)
			}
		default:
			if is || at != 9 || why != api.ErrRun {
				t.Error(sample.Told(v), is, at, why)
			}
		}
	}
	for s, at := range map[string]int{"1": 0, " nil": 1, "1 + 1": 2, "[true]": 0, "(a)": 1, " -a": 1, "a.b": 1, "b[1]": 1, "keys(self)": 0} {
		if is, where, why := query.Match(parsed(t, s), dict("a", int64(1), "b", list(1, 2))); is || where != at || why != api.ErrRun {
			t.Error(s, is, where, why)
		}
	}
}

// P17.3, P2: values that can't be are told by their own errors, ahead of all else.
func TestWrongValues(t *testing.T) {
	for _, x := range sample.Wrongs() {
		for _, s := range []string{"true", "self", "a", "1 / 0", "any(self, self = 1)", "nil = nil"} {
			mustNotTell(t, parsed(t, s), x.V, 0, x.Why)
			mustNotTell(t, parsed(t, " "+s), x.V, 0, x.Why)
		}
	}
	for _, v := range []any{int(1), int32(1), uint8(1), float32(1), []any{}, []string{"a"}, map[string]any{}, struct{}{}, api.Record{}, &api.Dict{}, func() {}, make(chan int), [2]int{}, 'a', complex(1, 2), api.Field{}, api.Term{}, (*int)(nil)} {
		mustNotTell(t, parsed(t, " true"), v, 0, api.ErrKind)
		mustNotTell(t, parsed(t, " self"), api.List{v}, 0, api.ErrKind)
	}
}
