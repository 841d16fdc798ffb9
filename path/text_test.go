package path_test

import (
	"math/rand"
	"slices"
	"strings"
	"testing"

	"tenon/api"
	"tenon/path"
	"tenon/sample"
)

// waysAndTexts are ways that can be, the limits themselves among them, with their texts.
func waysAndTexts() map[string][]api.Step {
	longest := strings.Repeat("n", api.MaxName)
	all := map[string][]api.Step{
		"": nil, "a": steps(name("a")), "a.b[3].c": steps(name("a"), name("b"), index(3), name("c")), "[0]": steps(index(0)), "[0].a": steps(index(0), name("a")), "[0][1]": steps(index(0), index(1)), "a[0]": steps(name("a"), index(0)), "a[0].b": steps(name("a"), index(0), name("b")), "a.a": times(2, name("a")),
		"[4095]": steps(index(api.MaxItems - 1)), "[9]": steps(index(9)), "[10]": steps(index(10)), "[100][1000]": steps(index(100), index(1000)), "[4009]": steps(index(4009)),
		longest: steps(name(longest)), longest + "." + longest: times(2, name(longest)), "a0_.z_9": steps(name("a0_"), name("z_9")), "nil.true": steps(name("nil"), name("true")),
		strings.Repeat("[0]", api.MaxDepth): times(api.MaxDepth, index(0)), "a" + strings.Repeat(".a", api.MaxDepth-1): times(api.MaxDepth, name("a")), strings.Repeat("[7]", api.MaxDepth-1) + ".b": append(times(api.MaxDepth-1, index(7)), name("b")),
	}
	for _, s := range sample.GoodNames() {
		all[s] = steps(name(s))
		all["[5]."+s] = steps(index(5), name(s))
	}
	return all
}

// P4.1, P4.12: a way's text, and the way of a text.
func TestPrintAndParse(t *testing.T) {
	for s, l := range waysAndTexts() {
		if got, e := path.Print(l); got != s || e != api.OK {
			t.Errorf("%q: printed %q, %d", s, got, e)
		}
		if got, at, e := path.Parse(s); !slices.Equal(got, l) || at != 0 || e != api.OK {
			t.Errorf("%q: read %v, %d, %d", s, got, at, e)
		}
	}
	if s, e := path.Print([]api.Step{}); s != "" || e != api.OK {
		t.Error("the empty way:", s, e)
	}
}

// P4.1: Print of ways that can't be.
func TestPrintWrong(t *testing.T) {
	for i, x := range badWays() {
		if s, e := path.Print(x.way); s != "" || e != x.why {
			t.Errorf("%d: %q, %d, want %d", i, s, e, x.why)
		}
	}
	for _, s := range sample.BadNames() {
		if got, e := path.Print(steps(name(s))); got != "" || e != api.ErrName {
			t.Errorf("%q: %q, %d", s, got, e)
		}
	}
}

// P4.1: the first error of a text, and its place.
func TestParseWrong(t *testing.T) {
	full, dotted := strings.Repeat("[0]", api.MaxDepth), "a"+strings.Repeat(".a", api.MaxDepth-1)
	long := strings.Repeat("n", api.MaxName+1)
	for _, x := range []struct {
		s   string
		at  int
		why api.Errno
	}{
		{"[0]a", 3, api.ErrForm}, {"a..b", 2, api.ErrForm}, {"a[", 2, api.ErrShort}, {"a[01]", 1, api.ErrForm}, {"A", 0, api.ErrForm}, // the chapter's own

		{"[", 1, api.ErrShort}, {"[1", 2, api.ErrShort}, {"a.b[123", 7, api.ErrShort}, {"[01", 3, api.ErrShort}, {"[00000", 6, api.ErrShort}, {"[99999999999999999999", 21, api.ErrShort}, {"[4096", 5, api.ErrShort}, // an index that s ends in
		{"[]", 0, api.ErrForm}, {"a[]", 1, api.ErrForm}, {"[x", 0, api.ErrForm}, {"[x]", 0, api.ErrForm}, {"[-1]", 0, api.ErrForm}, {"[+1]", 0, api.ErrForm}, {"[ 1]", 0, api.ErrForm}, {"[1 ]", 0, api.ErrForm}, {"[1x", 0, api.ErrForm}, {"[1.]", 0, api.ErrForm}, {"[1[", 0, api.ErrForm}, {"[[", 0, api.ErrForm}, {"[a", 0, api.ErrForm}, {"[0x1]", 0, api.ErrForm}, {"[1_0]", 0, api.ErrForm}, {"[٣]", 0, api.ErrForm},
		{"[00]", 0, api.ErrForm}, {"[007]", 0, api.ErrForm}, {"[04096]", 0, api.ErrForm}, {"[0099999999999999999999]", 0, api.ErrForm}, {"[4096x", 0, api.ErrForm}, {"[99999999999999999999.", 0, api.ErrForm}, {"b.a[1)", 3, api.ErrForm},
		{"[4096]", 0, api.ErrArg}, {"a[9999]", 1, api.ErrArg}, {"a.b[18446744073709551616]", 3, api.ErrArg}, {"[18446744073709551617]", 0, api.ErrArg}, {"[9223372036854775808]", 0, api.ErrArg}, {"[0][10000]", 3, api.ErrArg}, {"[4096]x", 0, api.ErrArg}, {"[4096].A", 0, api.ErrArg}, {"[5000][", 0, api.ErrArg},

		{"a.", 2, api.ErrShort}, {"[0].", 4, api.ErrShort}, {"a.b.", 4, api.ErrShort}, // a name that s ends ahead of
		{".", 0, api.ErrForm}, {".a", 0, api.ErrForm}, {"..", 0, api.ErrForm}, {"]", 0, api.ErrForm}, {" a", 0, api.ErrForm}, {"\x00", 0, api.ErrForm}, {"é", 0, api.ErrForm}, {"a.[0]", 2, api.ErrForm}, {"[0]..", 4, api.ErrForm}, {"[0].A", 4, api.ErrForm}, {"a.B", 2, api.ErrForm}, {"a. b", 2, api.ErrForm}, {"-a", 0, api.ErrForm},
		{"0", 0, api.ErrName}, {"_", 0, api.ErrName}, {"9a", 0, api.ErrName}, {"_a", 0, api.ErrName}, {"a.0", 2, api.ErrName}, {"[0]._b", 4, api.ErrName}, {long, 0, api.ErrName}, {"a." + long, 2, api.ErrName}, {long + "A", 0, api.ErrName}, {"0A", 0, api.ErrName}, {"a.1[", 2, api.ErrName},

		{"aA", 1, api.ErrForm}, {"a b", 1, api.ErrForm}, {"a ", 1, api.ErrForm}, {"a]", 1, api.ErrForm}, {"a.b-c", 3, api.ErrForm}, {"a[0]]", 4, api.ErrForm}, {"[0]0", 3, api.ErrForm}, {"[0]_", 3, api.ErrForm}, {"aé", 1, api.ErrForm}, {"a\xff", 1, api.ErrForm}, {"a/b", 1, api.ErrForm}, {"[0] [0]", 3, api.ErrForm}, {"a\n", 1, api.ErrForm}, // behind a step
		{"a[0]b[", 4, api.ErrForm}, {"a..b[", 2, api.ErrForm}, {"A.a[", 0, api.ErrForm}, {"a[4096][01]", 1, api.ErrArg}, {"a[01][4096]", 1, api.ErrForm}, {"a.0.", 2, api.ErrName}, // from left to right

		{full + "[0]", len(full), api.ErrLong}, {full + ".a", len(full), api.ErrLong}, {dotted + ".a", len(dotted), api.ErrLong}, {dotted + "[0]", len(dotted), api.ErrLong},
		{full + "[", len(full), api.ErrLong}, {full + ".", len(full), api.ErrLong}, {full + "[01]", len(full), api.ErrLong}, {full + "[4096]", len(full), api.ErrLong}, {full + ".A", len(full), api.ErrLong}, {full + "..", len(full), api.ErrLong}, {dotted + "[x", len(dotted), api.ErrLong}, {full + full, len(full), api.ErrLong},
		{full + "a", len(full), api.ErrForm}, {dotted + "A", len(dotted), api.ErrForm}, {full + "]", len(full), api.ErrForm}, {full[3:] + "[", len(full) - 2, api.ErrShort}, {full[3:] + ".", len(full) - 2, api.ErrShort}, {full[3:] + ".0", len(full) - 2, api.ErrName}, {dotted + long, 2 * (api.MaxDepth - 1), api.ErrName},
	} {
		if l, at, e := path.Parse(x.s); len(l) != 0 || at != x.at || e != x.why {
			t.Errorf("%q: %v, %d, %d, want %d, %d", x.s, l, at, e, x.at, x.why)
		}
	}
}

// P4.1: each byte at each place of a step.
func TestParseBytes(t *testing.T) {
	const letters, digits = "abcdefghijklmnopqrstuvwxyz", "0123456789"
	of := func(c int, s string) bool { return strings.Contains(s, string([]byte{byte(c)})) }
	for c := range 256 {
		b := string([]byte{byte(c)})
		if _, _, e := path.Parse(b); (e == api.OK) != of(c, letters) || (e == api.ErrName) != of(c, digits+"_") || (e == api.ErrShort) != (b == "[") {
			t.Errorf("%q: %d", b, e)
		}
		if _, _, e := path.Parse("a" + b + "b"); (e == api.OK) != of(c, letters+digits+"_.") {
			t.Errorf("a%qb: %d", b, e)
		}
		if _, _, e := path.Parse("[" + b + "]"); (e == api.OK) != of(c, digits) {
			t.Errorf("[%q]: %d", b, e)
		}
		if _, _, e := path.Parse("[1" + b + "]"); (e == api.OK) != of(c, digits) {
			t.Errorf("[1%q]: %d", b, e)
		}
		if _, at, e := path.Parse("[1]" + b); e == api.OK || at != 3+strings.Count(b, ".")+strings.Count(b, "[") {
			t.Errorf("[1]%q: %d, %d", b, at, e)
		}
	}
	for n := range 2 * api.MaxItems {
		s := sayWay(steps(index(n % api.MaxItems)))
		if l := way(s); len(l) != 1 || l[0] != index(n%api.MaxItems) {
			t.Fatal(s, l)
		}
	}
}

// P4.12: Print and Parse give back whatever way can be, and whatever text is one's.
func TestTextsThereAndBack(t *testing.T) {
	r := rand.New(rand.NewSource(4))
	for range 5000 {
		l := make([]api.Step, r.Intn(8))
		for i := range l {
			l[i] = index(r.Intn(api.MaxItems) >> r.Intn(12))
			if r.Intn(2) == 0 {
				good := sample.GoodNames()
				l[i] = name(good[r.Intn(len(good))])
			}
		}
		s, e := path.Print(l)
		if e != api.OK {
			t.Fatal(l, e)
		}
		if back, at, e := path.Parse(s); !slices.Equal(back, l) || at != 0 || e != api.OK {
			t.Fatal(s, back, at, e)
		}
	}
	read := 0
	for range 200000 {
		b := make([]byte, r.Intn(9))
		for i := range b {
			b[i] = "ab_.[]0129A"[r.Intn(11)]
		}
		l, at, e := path.Parse(string(b))
		if e != api.OK {
			if len(l) != 0 || at < 0 || at > len(b) {
				t.Fatalf("%q: %v, %d, %d", b, l, at, e)
			}
			continue
		}
		read++
		if s, e := path.Print(l); s != string(b) || e != api.OK || at != 0 {
			t.Fatalf("%q: printed %q, %d, %d", b, s, e, at)
		}
	}
	if read < 1000 {
		t.Error("too few texts were ways:", read)
	}
}
