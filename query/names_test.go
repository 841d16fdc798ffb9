package query_test

import (
	"fmt"
	"math/rand"
	"slices"
	"strings"
	"testing"

	"tenon/api"
	"tenon/names"
	"tenon/query"
	"tenon/sample"
)

// mustName is of an expression's text and the names that it asks.
func mustName(t *testing.T, s string, want ...string) {
	t.Helper()
	if l := query.Names(parsed(t, s)); !slices.Equal(l, want) {
		t.Errorf("%s: %q, want %q", s, l, want)
	}
}

// P17.4: names that are asked of the value itself, rising, each once.
func TestNames(t *testing.T) {
	for s, want := range map[string]string{
		"1": "", "self": "", "[]": "", "nil = true": "", "a": "a", "(a)": "a", "b + a": "a b", "a + a": "a", "[c, b, a, c, b]": "a b c", "c or b and not a": "a b c", "-a": "a", "a is int": "a", "x = 1 and a in b": "a b x", "a_ + a0 + aa + a": "a a0 a_ aa",
		"a.b": "a", "self.a": "a", "(self).a": "a", "self.a.b": "a", "self.or + self.self": "or self", "self.b + a": "a b", `self["a"]`: "a", `self["or"]`: "or", `self["A"]`: "", `self[""]`: "", `self["a b"]`: "", `a["b"]`: "a", "a[b]": "a b", "self[a]": "a", "self[0]": "", "self[self.a]": "a", `self[self["a"]]`: "a", `self["a"]["b"]`: "a", `self["a"].b`: "a", `"a"["b"]`: "", `(self + self)["a"]`: "", "(self or self).a": "", `self["a" + "b"]`: "", `self[nil]`: "", "[self].a": "", `self[@1]`: "", `self[#61]`: "", `self[true]`: "",
		"len(a)": "a", "len(self)": "", "has(a, b)": "a b", `has(self, "a")`: "", `"a" in self`: "", "keys(self)": "", "sum([a, self.b])": "a b", "first(a).b": "a",
	} {
		mustName(t, s, strings.Fields(want)...)
	}
	for _, f := range functions2()[1:] {
		for s, want := range map[string]string{
			"(a, b)": "a", "(self.a, self.b)": "a", `([self["a"], self.c], self["b"])`: "a c", "(self, b)": "", "(self, self)": "", "(" + f + "(a, b), c)": "a", "(a, " + f + "(b, c))": "a", "([1], " + f + "(self, a))": "", "(a, b) or b": "a b", "(b, has(a, a))": "b", "(a, true) = self.z": "a z", "(has(a, b), c)": "a b",
		} {
			mustName(t, f+s, strings.Fields(want)...)
		}
	}
	long := strings.Repeat("n", api.MaxName)
	mustName(t, "self."+long+" = "+long, long)
	mustName(t, `self["`+long+`"]`, long)
	mustName(t, `self["`+long+`n"]`)
	for _, name := range sample.GoodNames() {
		mustName(t, name, name)
		mustName(t, `self["`+name+`"]`, name)
	}
	for _, name := range sample.BadNames() {
		if l := query.Names(sample.Expr("at", sample.Expr("self"), sample.Fixed(name))); len(name) <= api.MaxText && len(l) > 0 {
			t.Errorf("%q: %q", name, l)
		}
	}
}

// P17.4: as many names as an expression can have.
func TestManyNames(t *testing.T) {
	var parts []api.Expr
	var want []string
	for i := range api.MaxNodes - 1 {
		name := fmt.Sprintf("n%05d", i*7919%(api.MaxNodes-1))
		parts = append(parts, sample.Asked(name))
		want = append(want, name)
	}
	slices.Sort(want)
	want = slices.Compact(want)
	if l := query.Names(sample.Expr("list", parts...)); !slices.Equal(l, want) {
		t.Error(len(l), len(want))
	}
	if l := query.Names(sample.Expr("list", append(parts, sample.Asked("a"))...)); len(l) > 0 {
		t.Error(len(l))
	}
}

// modelNames is the names of an expression by the chapter's words.
func modelNames(e api.Expr, own bool, into map[string]int) {
	isSelf := len(e.Parts) > 0 && e.Parts[0].Op == "self"
	switch {
	case !own:
	case e.Op == "field", e.Op == "dot" && isSelf:
		into[e.Name]++
	case e.Op == "at" && isSelf && e.Parts[1].Op == "value" && e.Parts[1].Value.Kind == api.KText && names.Is(e.Parts[1].Value.Text):
		into[e.Parts[1].Value.Text]++
	}
	for i, p := range e.Parts {
		each := e.Op == "call" && slices.Contains([]string{"any", "all", "map", "pick"}, e.Name)
		modelNames(p, own && !(each && i == 1), into)
	}
}

// P17.4: of expressions by chance.
func TestNamesModel(t *testing.T) {
	r := rand.New(rand.NewSource(174))
	several := 0
	for range 20000 {
		e := sample.AnyExpr(r.Intn, 2+r.Intn(5))
		into := map[string]int{}
		modelNames(e, true, into)
		var want []string
		for name := range into {
			want = append(want, name)
		}
		slices.Sort(want)
		if len(want) > 2 {
			several++
		}
		if l := query.Names(e); !slices.Equal(l, want) {
			t.Fatalf("%s: %q, want %q", told(e, false), l, want)
		}
	}
	if several < 300 {
		t.Error("too little:", several)
	}
}
