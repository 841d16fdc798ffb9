package text_test

import (
	"fmt"
	"math/rand"
	"regexp"
	"strings"
	"testing"

	"tenon/api"
	"tenon/sample"
	"tenon/text"
	"tenon/value"
)

// values are all that the tests of this file go through.
func values() []any {
	r := rand.New(rand.NewSource(3))
	all := sample.Rich()
	for _, x := range texts() {
		all = append(all, x.v)
	}
	for range 3000 {
		all = append(all, sample.Anything(r.Uint64, 4))
	}
	return all
}

func printed(t *testing.T, v any) string {
	t.Helper()
	s, e := text.Print(v)
	if e != api.OK {
		t.Fatalf("%T: %d", v, e)
	}
	return s
}

// P2.3: there and back, by the text and by the lines.
func TestThereAndBack(t *testing.T) {
	for _, v := range values() {
		lines, e := text.Lines(v)
		if e != api.OK {
			t.Fatal(e)
		}
		mustRead(t, printed(t, v), v)
		mustRead(t, lines, v)
	}
}

// P2.3: First with something behind, whatever that is, if it begins as the promise says.
func TestFirstWithSomethingBehind(t *testing.T) {
	var behind []string
	for c := range 256 {
		if b := byte(c); !strings.ContainsRune("0123456789.+-_/(", rune(b)) && (b|0x20 < 'a' || b|0x20 > 'z') {
			behind = append(behind, string([]byte{b}), string([]byte{b})+"1/a")
		}
	}
	for _, v := range values() {
		s := printed(t, v)
		some := behind
		if len(s) > 1000 {
			some = behind[:2] // for the sake of time
		}
		for _, more := range some {
			got, n, e := text.First(s + more)
			if e != api.OK || n != len(s) || !value.Same(got, v) {
				t.Fatalf("First(%s %q): %v, %d, %d", short(s), more, got, n, e)
			}
		}
	}
}

// P2.4: values that are not the same have not one text.
func TestOneForm(t *testing.T) {
	of := map[string]any{}
	for _, v := range values() {
		s := printed(t, v)
		if other, there := of[s]; there && !value.Same(v, other) {
			t.Errorf("%T and %T: %s", v, other, short(s))
		}
		of[s] = v
		c, e := value.Copy(v)
		if e != api.OK || printed(t, c) != s {
			t.Errorf("the same, but not by its text: %s", short(s))
		}
	}
	for _, x := range [][2]any{{api.List(nil), api.List{}}, {api.Dict(nil), api.Dict{}}, {[]byte(nil), []byte{}}, {sample.Record("a", 1), sample.Record("a", 1, api.Dict{}...)}} {
		if printed(t, x[0]) != printed(t, x[1]) {
			t.Errorf("%T: nil and empty", x[0])
		}
	}
}

// spread writes a value's text with blanks wherever they may stand and bytes escaped in whatever way, by chance.
func spread(t *testing.T, r *rand.Rand, v any) string {
	blanks := func() string { return strings.Repeat(string(" \t\n\r"[r.Intn(4)]), r.Intn(3)) }
	var items []string
	open, shut := "{", "}"
	fields := func(d api.Dict) {
		for _, f := range d {
			items = append(items, blanks()+f.Name+blanks()+":"+spread(t, r, f.Value))
		}
	}
	switch x := v.(type) {
	case string:
		return blanks() + `"` + escapedAnyhow(r, x) + `"` + blanks()
	case api.List:
		open, shut = "[", "]"
		for _, part := range x {
			items = append(items, spread(t, r, part))
		}
	case api.Dict:
		fields(x)
	case *api.Record:
		open = fmt.Sprint(x.Class, "/", x.Version, blanks(), "{")
		fields(x.Fields)
	default:
		return blanks() + printed(t, v) + blanks()
	}
	return blanks() + open + blanks() + strings.Join(items, ",") + blanks() + shut + blanks()
}

func escapedAnyhow(r *rand.Rand, s string) string {
	out := ""
	for _, c := range []byte(s) {
		plain := text.Quote(string([]byte{c}))
		if r.Intn(2) == 0 {
			out += fmt.Sprintf(`\x%02x`, c)
		} else {
			out += plain[1 : len(plain)-1]
		}
	}
	return out
}

// P2.4: blanks, and how bytes are escaped, play no part.
func TestHowItIsWrittenPlaysNoPart(t *testing.T) {
	r := rand.New(rand.NewSource(4))
	for range 3000 {
		v := sample.Anything(r.Uint64, 4)
		s := spread(t, r, v)
		mustRead(t, s, v)
		got, _, e := text.Parse(s)
		if e != api.OK || printed(t, got) != printed(t, v) {
			t.Fatalf("%s: %d", short(s), e)
		}
	}
	for _, s := range []string{`"A\n"`, `"\x41\n"`, `"A\x0a"`, ` "\x41\x0a"`} {
		v, _, e := text.Parse(s)
		if e != api.OK || printed(t, v) != `"A\n"` {
			t.Error(s, v, e)
		}
	}
}

// P2.5: a beginning of a text is refused, or another value's.
func TestBeginnings(t *testing.T) {
	r := rand.New(rand.NewSource(5))
	all := texts()
	for range 500 {
		v := sample.Anything(r.Uint64, 4)
		all = append(all, said{v, spread(t, r, v)})
	}
	for _, x := range all {
		_, end, e := text.First(x.s)
		if e != api.OK {
			t.Fatal(x.s, e)
		}
		for n := range end {
			s := x.s[:n]
			if n > 0 && strings.IndexByte(" \t\n\r", s[n-1]) >= 0 {
				continue
			}
			if v, _, e := text.Parse(s); e == api.OK && value.Same(v, x.v) {
				t.Fatalf("%q, a beginning of %q, is the same", s, x.s)
			}
		}
	}
}

// P2.5: a text that ends within brackets is told as too short, at its end.
func TestBeginningsWithinBrackets(t *testing.T) {
	for _, s := range []string{"[nil]", "[1, 2]", `["a", {a: #00}]`, "a/1{b: [], c: {}}", "{a: @1}"} {
		for n := range len(s) {
			v, at, e := text.Parse(s[:n])
			if v != nil || e == api.OK || e == api.ErrShort && at != n {
				t.Errorf("%q: %v, %d, %d", s[:n], v, at, e)
			}
			if n > 0 && strings.IndexByte("[]{},: \"", s[n-1]) >= 0 && e != api.ErrShort {
				t.Errorf("%q: %d, want that it is too short", s[:n], e)
			}
		}
	}
}

// P2.6: lines are the text, but for what the promise takes out and puts in.
func TestLinesAreTheText(t *testing.T) {
	behindComma, elsewhere := regexp.MustCompile(",\n *"), regexp.MustCompile("\n *")
	for _, v := range values() {
		lines, e := text.Lines(v)
		if e != api.OK {
			t.Fatal(e)
		}
		s := elsewhere.ReplaceAllString(behindComma.ReplaceAllString(lines, ", "), "")
		if s != printed(t, v) {
			t.Fatalf("%s, %s", short(lines), short(s))
		}
		if strings.HasSuffix(lines, "\n") {
			t.Fatalf("a line feed at the end of %s", short(lines))
		}
	}
}

// Whatever the text is: no panic, a place within it, and both readers tell the same of it.
func TestAnyText(t *testing.T) {
	r := rand.New(rand.NewSource(8))
	pieces := []string{"[", "]", "{", "}", ",", ":", "/", "nil", "true", "a", "b", "c/1", "/1", "nan(", "7ff8000000000001", ")", "1", "0", "-", "+inf", "0x1", ".8", "p+00", "\"", "\\", "\\x4", "\\n", "#", "00", "@", " ", "\n", "_", "A", "\x00", "\xff", "a: ", "b: 2", "[]", "{}"}
	whole := 0
	for range 200000 {
		s := ""
		for range 1 + r.Intn(9) {
			s += pieces[r.Intn(len(pieces))]
		}
		v, at, e := text.Parse(s)
		first, n, f := text.First(s)
		switch {
		case e == api.OK:
			whole++
			if f != api.OK || at != 0 || !value.Same(v, first) || strings.TrimLeft(s[n:], " \t\n\r") != "" {
				t.Fatalf("%q: %d, %d, %d, %d", s, at, e, n, f)
			}
			mustRead(t, printed(t, v), v)
		case e == api.ErrMore:
			if f != api.OK || at < n || at >= len(s) || strings.Trim(s[n:at], " \t\n\r") != "" || strings.IndexByte(" \t\n\r", s[at]) >= 0 {
				t.Fatalf("%q: %d, %d, %d, %d", s, at, e, n, f)
			}
			if _, check := value.Check(first); check != api.OK {
				t.Fatalf("%q: what can't be: %d", s, check)
			}
		case v != nil || first != nil || n != at || f != e || at < 0 || at > len(s) || (e == api.ErrShort) != (at == len(s)):
			t.Fatalf("%q: %v, %d, %d, %v, %d, %d", s, v, at, e, first, n, f)
		}
	}
	if whole < 1000 {
		t.Error("few texts were whole:", whole)
	}
}

// Memory: answers share nothing with one another, nor parts of one answer.
func TestAnswersShareNothing(t *testing.T) {
	const s = "[#0102, #0102, [1], [1], a/1{b: #0102}, a/1{b: #0102}]"
	v, _, _ := text.Parse(s)
	w, _, _ := text.Parse(s)
	l := v.(api.List)
	b := l[0].([]byte)
	b = b[:cap(b)]
	for i := range b {
		b[i] = 0xee
	}
	l[2].(api.List)[0] = nil
	_ = append(l[2].(api.List), nil, nil)
	l[4].(*api.Record).Fields[0] = api.Field{}
	if got := printed(t, l[1]) + printed(t, l[3]) + printed(t, l[5]); got != "#0102[1]a/1{b: #0102}" {
		t.Error("within one answer:", got)
	}
	if printed(t, w) != s {
		t.Error("between two answers:", printed(t, w))
	}
}
