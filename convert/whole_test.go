package convert_test

import (
	"testing"

	"tenon/api"
	"tenon/convert"
	"tenon/evolve"
	"tenon/schema"
)

// defined is a Schema of the classes of a text.
func defined(t *testing.T, s string) *schema.Schema {
	t.Helper()
	l, at, e := schema.Parse(s)
	if e != api.OK {
		t.Fatal(at, e)
	}
	out := new(schema.Schema)
	for _, c := range l {
		if e := out.Define(c); e != api.OK {
			t.Fatal(c.Name, c.Version, e)
		}
	}
	return out
}

// auto is the converter that follows from two versions of class p.
func auto(t *testing.T, s *schema.Schema, from, to int) api.Converter {
	t.Helper()
	c, e := evolve.Auto(s, "p", from, to)
	if e != api.OK {
		t.Fatal(from, to, e)
	}
	return c
}

// P3, P4: converters that follow from a schema show just what they can, and are chained with others.
func TestChainsOfASchema(t *testing.T) {
	s := defined(t, `
		class p 1 { name: text }
		class p 2 { full: text was name }
		class p 3 { age: int = 0 full: text | nil }
		class p 4 { age: int born: int full: text }`)
	r := made(t, auto(t, s, 1, 2), auto(t, s, 2, 3))
	down := made(t, auto(t, s, 3, 2), auto(t, s, 2, 1))
	for n, want := range map[int]int{1: reversible, 2: reversible} {
		if has, e := r.Has(n); has != want || e != api.OK {
			t.Error(n, has, e, "want", want)
		}
	}
	for n, want := range map[int]int{1: partial, 2: reversible} {
		if has, e := down.Has(n); has != want || e != api.OK {
			t.Error(n, has, e, "want", want)
		}
	}
	mustConvert(t, r, rec(`p/1{name: "ann"}`), 3, `p/3{age: 0, full: "ann"}`)
	for _, g := range []*convert.Registry{r, down} {
		mustConvert(t, g, rec(`p/3{age: 7, full: "ann"}`), 1, `p/1{name: "ann"}`)
	}
	mustFail(t, r, rec(`p/3{age: 7, full: nil}`), 1, api.ErrMisfit)
	mustFail(t, down, rec(`p/3{age: 7, full: nil}`), 1, api.ErrPartial)
	mustLack(t, down, 2, 3)
	mustFail(t, r, rec(`p/1{full: "ann"}`), 2, api.ErrFields)
	mustFail(t, r, rec(`p/1{name: 7}`), 3, api.ErrMisfit)
	mustFail(t, r, rec(`p/1{name: "ann"}`), 4, api.ErrChain)
	mustAdd(t, r, doing(3, 4, func(d api.Dict) (api.Dict, api.Errno) {
		return api.Dict{d[0], {Name: "born", Value: 2026 - d[0].Value.(int64)}, d[1]}, api.OK
	}), 3)
	mustConvert(t, r, rec(`p/1{name: "ann"}`), 4, `p/4{age: 0, born: 2026, full: "ann"}`)
	mustReach(t, r, 1, 1, 2, 3, 4)
	mustReach(t, r, 4, 4)
}

// P4: example 4 of the whole: a question of version 3 to what was stored as version 1 calls both converters, once each, in their order.
func TestQuestionOfANewVersion(t *testing.T) {
	var log []string
	var r convert.Registry
	for n := 1; n <= 2; n++ {
		mustAdd(t, &r, with(0, script{class: "person", from: n, to: n + 1, log: &log}), n)
	}
	log = nil
	v, ok, e := r.Ask(rec("person/1{}"), 3, "way")
	if v != "1-2 2-3" || !ok || e != api.OK {
		t.Error(told(v), ok, e)
	}
	mustLog(t, &log, "Convert 1-2", "Convert 2-3")
}
