package query_test

import (
	"fmt"
	"reflect"
	"strings"
	"testing"

	"tenon/api"
	"tenon/query"
	"tenon/sample"
	"tenon/value"
)

// The table of levels: signs and words that stand between two sides, by their level.
func levels() map[string]int {
	m := map[string]int{"or": 1, "and": 2}
	for level, ops := range map[int]string{4: "= != < <= > >= in", 5: "+ -", 6: "* / %"} {
		for _, op := range strings.Fields(ops) {
			m[op] = level
		}
	}
	return m
}

// Lists that the chapter gives; signs are those with two sides.
func signs() []string { return strings.Fields("or and = != < <= > >= in + - * / %") }
func kindWords() []string {
	return strings.Fields("nil bool int float text bytes ref list dict record")
}
func reserved() []string     { return strings.Fields("or and not in is nil true false self nan") }
func functions1() []string   { return strings.Fields("len kind keys first last sum least most") }
func functions2() []string   { return strings.Fields("has any all map pick") }
func otherWords() []string   { return append(append(kindWords()[1:], functions1()...), functions2()...) }
func blanks() []string       { return []string{" ", "\t", "\n", "\r", " \t\n\r", "    ", "\r\n\r\n"} }
func deep(s string) string   { return strings.Repeat(s, api.MaxDepth-1) }
func deeper(s string) string { return strings.Repeat(s, api.MaxDepth) }

// told is an expression as it is read in what a test tells, all that it has: its Op, its place (if that is wanted), its name, its value, its parts.
func told(e api.Expr, places bool) string {
	s := e.Op
	if places {
		s += fmt.Sprint("@", e.At)
	}
	if e.Name != "" {
		s += " " + e.Name
	}
	if v, why := value.Of(e.Value); why == api.OK {
		s += " " + sample.Told(v)
		if !reflect.DeepEqual(e.Value, sample.Term(v)) {
			s += fmt.Sprintf(" and more: %+v", e.Value)
		}
	} else if !reflect.DeepEqual(e.Value, api.Term{}) {
		s += fmt.Sprintf(" and no value: %+v", e.Value)
	}
	var parts []string
	for _, p := range e.Parts {
		parts = append(parts, told(p, places))
	}
	if parts != nil {
		s += "(" + strings.Join(parts, ", ") + ")"
	}
	return s
}

func short(s string) string {
	if len(s) > 200 {
		s = s[:100] + " .. " + s[len(s)-100:]
	}
	return s
}

// parsed is the expression of a text, which must have one.
func parsed(t *testing.T, s string) api.Expr {
	t.Helper()
	e, at, why := query.Parse(s)
	if at != 0 || why != api.OK {
		t.Fatalf("Parse(%q): %d, %d", short(s), at, why)
	}
	return e
}

// mustRead is of a text that must be an expression's, told with its places.
func mustRead(t *testing.T, s, want string) {
	t.Helper()
	e, at, why := query.Parse(s)
	if got := told(e, true); got != want || at != 0 || why != api.OK {
		t.Errorf("Parse(%q): %s, %d, %d, want %s", short(s), short(got), at, why, short(want))
	}
}

// mustBe is likewise, without the places.
func mustBe(t *testing.T, s string, want api.Expr) {
	t.Helper()
	e, at, why := query.Parse(s)
	if got, want := told(e, false), told(want, false); got != want || at != 0 || why != api.OK {
		t.Errorf("Parse(%q): %s, %d, %d, want %s", short(s), short(got), at, why, short(want))
	}
}

// mustNotRead is of a text that is no expression's.
func mustNotRead(t *testing.T, s string, wantAt int, want api.Errno) {
	t.Helper()
	e, at, why := query.Parse(s)
	if at != wantAt || why != want || told(e, true) != told(api.Expr{}, true) {
		t.Errorf("Parse(%q): %s, %d, %d, want %d, %d", short(s), short(told(e, true)), at, why, wantAt, want)
	}
}

// mustPrint is of an expression that can be.
func mustPrint(t *testing.T, e api.Expr, want string) {
	t.Helper()
	if s, why := query.Print(e); s != want || why != api.OK {
		t.Errorf("Print(%s): %q, %d, want %q", short(told(e, false)), short(s), why, short(want))
	}
}

// mustAnswer is of an expression's text and what it answers of a value; Match must tell it, too, if it is true or false.
func mustAnswer(t *testing.T, s string, v, want any) {
	t.Helper()
	mustTell(t, parsed(t, s), v, want)
}

func mustTell(t *testing.T, e api.Expr, v, want any) {
	t.Helper()
	got, at, why := query.Eval(e, v)
	if !value.Same(got, want) || at != 0 || why != api.OK {
		t.Errorf("%s of %s: %s, %d, %d, want %s", short(told(e, true)), sample.Told(v), sample.Told(got), at, why, sample.Told(want))
	}
	wantIs, is := want.(bool)
	wantAt, wantWhy := 0, api.OK
	if !is {
		wantAt, wantWhy = e.At, api.ErrRun
	}
	if is, at, why := query.Match(e, v); is != wantIs || at != wantAt || why != wantWhy {
		t.Errorf("Match: %s of %s: %v, %d, %d, want %v, %d, %d", short(told(e, true)), sample.Told(v), is, at, why, wantIs, wantAt, wantWhy)
	}
}

// mustNotRun is of an expression's text that can't go on at a place.
func mustNotRun(t *testing.T, s string, v any, wantAt int) {
	t.Helper()
	mustNotTell(t, parsed(t, s), v, wantAt, api.ErrRun)
}

func mustNotTell(t *testing.T, e api.Expr, v any, wantAt int, want api.Errno) {
	t.Helper()
	if got, at, why := query.Eval(e, v); got != nil || at != wantAt || why != want {
		t.Errorf("%s of %s: %s, %d, %d, want %d, %d", short(told(e, true)), sample.Told(v), sample.Told(got), at, why, wantAt, want)
	}
	if is, at, why := query.Match(e, v); is || at != wantAt || why != want {
		t.Errorf("Match: %s of %s: %v, %d, %d, want %d, %d", short(told(e, true)), sample.Told(v), is, at, why, wantAt, want)
	}
}

// dict is a dict of fields: a name, then what stands under it, then the next name.
func dict(namesAndValues ...any) api.Dict {
	d := api.Dict{}
	for i := 0; i < len(namesAndValues); i += 2 {
		d = append(d, sample.Field(namesAndValues[i].(string), namesAndValues[i+1]))
	}
	return d
}

// list is a list of whole numbers.
func list(numbers ...int) api.List {
	l := api.List{}
	for _, n := range numbers {
		l = append(l, int64(n))
	}
	return l
}
