package convert_test

import (
	"math"
	"strings"
	"testing"

	"tenon/api"
	"tenon/convert"
	"tenon/sample"
	"tenon/value"
)

// P9.3, example 3: to the version that it has, a copy; no converter is called.
func TestConvertToItself(t *testing.T) {
	var log []string
	r := made(t, with(7, script{from: 1, to: 2, log: &log}), with(7, script{from: 2, to: 3, log: &log}))
	log = nil
	for _, x := range []*api.Record{rec("p/1{}"), rec("p/2{a: [1, {b: #01}]}"), rec("nobody/1000{way: nil}"), sample.Record("p", 1, sample.Fields(api.MaxItems)...)} {
		y, e := r.Convert(x, x.Version)
		if !value.Same(x, y) || x == y || e != api.OK {
			t.Error(told(x), told(y), e)
		}
	}
	mustConvert(t, r, rec("p/2{a: [1, {b: #01}], way: 7}"), 2, "p/2{a: [1, {b: #01}], way: 7}")
	mustLog(t, &log)
}

// P9.3: the record in the version asked for, with what the converters made; x stays as it is.
func TestConvert(t *testing.T) {
	r := made(t, plain(1, 2), both(2, 3), dear(1, 3, 3), both(5, 4), both(4, 3), plain(9, 5))
	for _, x := range []struct{ from, want string }{
		{"p/1{a: 7}", `p/2{a: 7, way: "1-2"}`}, {"p/1{a: 7}", `p/3{a: 7, way: "1-2 2-3"}`}, {"p/1{}", `p/5{way: "1-2 2-3 3-4 4-5"}`}, {"p/9{a: [@1]}", `p/2{a: [@1], way: "9-5 5-4 4-3 3-2"}`}, {"p/5{}", `p/4{way: "5-4"}`},
	} {
		in := rec(x.from)
		mustConvert(t, r, in, rec(x.want).Version, x.want)
		if told(in) != x.from {
			t.Errorf("%s has become %s", x.from, told(in))
		}
	}
	mustFail(t, r, rec("p/2{a: 7}"), 1, api.ErrChain)
	mustFail(t, r, rec("q/1{a: 7}"), 2, api.ErrChain)
	mustFail(t, r, rec("p/1{}"), 9, api.ErrChain)
}

// P9.3: fields may come, go and become others; none at all, too.
func TestFieldsChange(t *testing.T) {
	r := made(t,
		doing(1, 2, answering(nil, api.OK)), doing(2, 3, answering(rec("p/1{b: {c: [0]}}").Fields, api.OK)), doing(3, 4, answering(api.Dict{}, api.OK)),
		doing(4, 5, func(d api.Dict) (api.Dict, api.Errno) { return api.Dict{sample.Field("n", int64(len(d)))}, api.OK }))
	mustConvert(t, r, rec("p/1{a: 7}"), 2, "p/2{}")
	mustConvert(t, r, rec("p/1{a: 7}"), 3, "p/3{b: {c: [0]}}")
	mustConvert(t, r, rec("p/2{a: 7}"), 4, "p/4{}")
	mustConvert(t, r, rec("p/1{a: 7}"), 5, "p/5{n: 0}")
	mustConvert(t, r, rec("p/4{a: 7, b: 8}"), 5, "p/5{n: 2}")
}

// P9.3: what can't be converted, and of several reasons the first one; nobody is called.
func TestConvertWrong(t *testing.T) {
	var log []string
	r := made(t, with(7, script{from: 1, to: 2, log: &log}), with(7, script{class: "a", from: 1, to: 2, log: &log}), with(7, script{class: "r", from: 1, to: 2, log: &log}))
	log = nil
	versions := []int{math.MinInt, -1, 0, 1, 2, 3, api.MaxVersion, api.MaxVersion + 1, math.MaxInt}
	for _, to := range versions {
		mustFail(t, r, nil, to, api.ErrNil)
		mustFail(t, new(convert.Registry), nil, to, api.ErrNil)
	}
	for _, x := range sample.Wrongs() {
		bad := sample.Record("p", 1, sample.Field("a", nil), sample.Field("b", x.V))
		if own, ok := x.V.(*api.Record); ok && own != nil {
			bad = own
		}
		_, want := value.Check(bad)
		for _, to := range versions {
			mustFail(t, r, bad, to, want)
		}
	}
	for _, to := range versions {
		for _, x := range []*api.Record{rec("p/1{a: 1}"), rec("p/2{}"), rec("q/1{}")} {
			switch {
			case to < 1 || to > api.MaxVersion:
				mustFail(t, r, x, to, api.ErrArg)
			case to != x.Version && (x.Class != "p" || x.Version != 1 && to != 1 || x.Version == 1 && to != 2):
				mustFail(t, r, x, to, api.ErrChain)
			}
		}
	}
	mustLog(t, &log)
}

// P9.3: Takes of one that is Partial is asked once, and only forward.
func TestPartial(t *testing.T) {
	var log []string
	takes := func(d api.Dict) bool { return len(d) > 0 && d[0].Value != nil }
	for set := range 8 {
		r := made(t, with(set, script{from: 1, to: 2, log: &log, takes: takes}))
		log = nil
		for _, x := range []string{"p/1{}", "p/1{a: nil}", "p/1{a: 0}"} {
			y, e := r.Convert(rec(x), 2)
			switch {
			case set&partial == 0 && e == api.OK && y != nil:
				mustLog(t, &log, "Convert 1-2")
			case set&partial != 0 && e == api.OK && y != nil && x == "p/1{a: 0}":
				mustLog(t, &log, "Takes 1-2", "Convert 1-2")
			case set&partial != 0 && e == api.ErrPartial && y == nil && x != "p/1{a: 0}":
				mustLog(t, &log, "Takes 1-2")
			default:
				t.Error(set, x, told(y), e)
			}
		}
		log = nil
		if y, e := r.Convert(rec("p/2{}"), 1); set&reversible != 0 && (e != api.OK || y == nil) || set&reversible == 0 && e != api.ErrChain {
			t.Error(set, told(y), e)
		}
		if set&reversible != 0 {
			mustLog(t, &log, "Back 1-2")
		}
		mustLog(t, &log)
	}
	r := made(t, with(partial, script{from: 1, to: 2, takes: takes}), doing(2, 3, answering(nil, api.OK)), with(partial, script{from: 3, to: 4, takes: takes}), plain(4, 5))
	mustConvert(t, r, rec("p/1{a: 0}"), 3, "p/3{}")
	mustFail(t, r, rec("p/1{a: 0}"), 4, api.ErrPartial)
	mustFail(t, r, rec("p/1{a: 0}"), 5, api.ErrPartial)
	mustConvert(t, r, rec("p/3{b: true}"), 5, `p/5{b: true, way: "3-4 4-5"}`)
}

// P9.3, P9.4: a converter's own error is told, whatever it is and whatever it answers beside; nobody behind it is called.
func TestOwnErrors(t *testing.T) {
	var log []string
	for _, e := range []api.Errno{api.ErrArg, api.ErrNil, api.ErrPanic, api.ErrFull, api.ErrThere, api.ErrChain, api.ErrPartial, api.ErrBad, api.ErrMisfit, 12345, -1, math.MinInt, math.MaxInt} {
		for _, d := range []api.Dict{nil, {}, {sample.Field("a", nil)}, {sample.Field("b", 1)}, {sample.Field("A", nil)}, sample.DictRing().(api.Dict)} {
			r := made(t, plain(1, 2), with(7, script{from: 2, to: 3, convert: answering(d, e), back: answering(d, api.ErrRun)}), with(7, script{from: 3, to: 4, log: &log}))
			log = nil
			for _, to := range []int{3, 4} {
				mustFail(t, r, rec("p/1{a: 1}"), to, e)
				mustFail(t, r, rec("p/2{}"), to, e)
			}
			mustLog(t, &log)
			mustFail(t, r, rec("p/3{}"), 2, api.ErrRun)
			mustConvert(t, r, rec("p/1{}"), 2, `p/2{way: "1-2"}`)
		}
	}
}

// P9.3, example 3: ErrBad, if what a converter answers can't be the fields of a record.
func TestBad(t *testing.T) {
	var log []string
	bad := []api.Dict{
		{sample.Field("b", 1)}, {sample.Field("", nil)}, {sample.Field("B", nil)}, {sample.Field("b", nil), sample.Field("a", nil)}, {sample.Field("a", nil), sample.Field("a", nil)},
		sample.Fields(api.MaxItems + 1), {sample.Field("a", sample.Within(api.MaxDepth, nil))}, {sample.Field("a", sample.Numbered(api.MaxNodes-1, nil))}, {sample.Field("a", strings.Repeat("x", api.MaxText+1))}, sample.DictRing().(api.Dict),
	}
	for _, x := range sample.Wrongs() {
		bad = append(bad, api.Dict{sample.Field("a", nil), sample.Field("b", x.V)})
	}
	for i, d := range bad {
		r := made(t, plain(1, 2), with(reversible, script{from: 2, to: 3, convert: answering(d, api.OK), back: answering(d, api.OK)}), with(7, script{from: 3, to: 4, log: &log}), with(7, script{from: 2, to: 5, log: &log}))
		log = nil
		for _, way := range [][2]int{{1, 3}, {2, 3}, {1, 4}, {2, 4}, {3, 2}, {3, 5}} {
			mustFail(t, r, sample.Record("p", way[0]), way[1], api.ErrBad)
			if t.Failed() {
				t.Fatal(i, way)
			}
		}
		mustLog(t, &log)
	}
}

// P9.3: what can just be is taken: as many fields, as deep, as great as a record's may be.
func TestGreatFields(t *testing.T) {
	for i, d := range []api.Dict{
		sample.Fields(api.MaxItems), {sample.Field("a", sample.Within(api.MaxDepth-1, nil))}, {sample.Field("a", sample.WithinFields(api.MaxDepth-1, nil))}, {sample.Field("a", sample.Numbered(api.MaxNodes-2, nil))}, {sample.Field("a", strings.Repeat("x", api.MaxText))}, {sample.Field(strings.Repeat("n", api.MaxName), []byte(nil))},
	} {
		r := made(t, with(reversible+partial, script{from: 999, to: 1000, convert: answering(d, api.OK), back: answering(d, api.OK), takes: func(d api.Dict) bool { return value.Same(d, d) }}))
		for from, to := range map[int]int{999: 1000, 1000: 999} {
			y, e := r.Convert(sample.Record("p", from, d...), to)
			if !value.Same(y, sample.Record("p", to, d...)) || e != api.OK {
				t.Error(i, told(y), e)
			}
		}
	}
}

// P9.3: whatever fields can be come through unchanged, whatever their kinds.
func TestFieldsOfEveryKind(t *testing.T) {
	same := func(d api.Dict) (api.Dict, api.Errno) { return d, api.OK }
	r := made(t, with(7, script{from: 1, to: 2, convert: same, back: same}))
	for i, v := range sample.Rising() {
		for from, to := range map[int]int{1: 2, 2: 1} {
			x := sample.Record("p", from, sample.Field("a", v), sample.Field("b", api.List{v, api.Dict{sample.Field("c", v)}}))
			y, e := r.Convert(x, to)
			if !value.Same(y, sample.Record("p", to, x.Fields...)) || e != api.OK {
				t.Error(i, told(y), e)
			}
			if got, ok, e := r.Ask(x, to, "a"); !value.Same(got, v) || !ok || e != api.OK {
				t.Error(i, told(got), ok, e)
			}
		}
	}
}

// P9.3: Ask of a name that is there, of one that is not, of one that holds none; Convert's error comes ahead of what is no name.
func TestAsk(t *testing.T) {
	var log []string
	r := made(t, with(partial, script{from: 1, to: 2, log: &log}), doing(2, 3, answering(nil, api.ErrFull)))
	log = nil
	x := rec("p/1{a: 7, b: nil, c: {d: 8}}")
	for _, y := range []struct {
		to   int
		name string
		want any
		has  bool
		e    api.Errno
	}{
		{1, "a", int64(7), true, api.OK}, {1, "b", nil, true, api.OK}, {1, "c", api.Dict{sample.Field("d", int64(8))}, true, api.OK}, {1, "d", nil, false, api.OK}, {1, "way", nil, false, api.OK}, {1, "", nil, false, api.ErrName},
		{2, "a", int64(7), true, api.OK}, {2, "b", nil, true, api.OK}, {2, "way", "1-2", true, api.OK}, {2, "aa", nil, false, api.OK}, {2, "zz", nil, false, api.OK}, {2, "A", nil, false, api.ErrName},
		{3, "a", nil, false, api.ErrFull}, {3, "", nil, false, api.ErrFull}, {4, "a", nil, false, api.ErrChain}, {4, "A", nil, false, api.ErrChain}, {0, "A", nil, false, api.ErrArg}, {1001, "a", nil, false, api.ErrArg},
	} {
		if v, ok, e := r.Ask(x, y.to, y.name); !value.Same(v, y.want) || ok != y.has || e != y.e {
			t.Errorf("Ask(%d, %q): %s, %v, %d", y.to, y.name, told(v), ok, e)
		}
		if y.to == 2 || y.to == 3 {
			mustLog(t, &log, "Takes 1-2", "Convert 1-2")
		}
		mustLog(t, &log)
	}
	for _, name := range sample.BadNames() {
		if v, ok, e := r.Ask(x, 2, name); v != nil || ok || e != api.ErrName {
			t.Errorf("%q: %s, %v, %d", name, told(v), ok, e)
		}
	}
	for _, name := range sample.GoodNames() {
		y := sample.Record("q", 1, sample.Field(name, int64(3)))
		if v, ok, e := r.Ask(y, 1, name); v != int64(3) || !ok || e != api.OK {
			t.Errorf("%q: %s, %v, %d", name, told(v), ok, e)
		}
	}
}

// P9.4: each converter of the chain is called just once, in the order of the chain, with what the one ahead made; no other one is called.
func TestByTheChain(t *testing.T) {
	var log []string
	logged := func(set, from, to, cost int) api.Converter {
		return with(set, script{from: from, to: to, cost: cost, log: &log})
	}
	r := made(t,
		logged(0, 1, 2, 0), logged(partial, 2, 3, 0), logged(reversible+partial, 4, 3, 0), logged(7, 4, 5, 2), // the chain from 1 to 5
		logged(costed, 1, 5, 6), logged(7, 2, 5, 5), logged(partial+costed, 1, 3, 3), logged(7, 3, 5, 4), // all of these cost more
		logged(7, 6, 5, 1), logged(7, 6, 7, 1), logged(0, 3, 1, 0), with(7, script{class: "q", from: 1, to: 2, log: &log}))
	log = nil
	mustChain(t, r, 1, 5, 1, 2, -3, 4)
	y, e := r.Convert(rec("p/1{a: 0}"), 5)
	if told(y) != `p/5{a: 0, way: "1-2 2-3 3-4 4-5"}` || e != api.OK {
		t.Error(told(y), e)
	}
	mustLog(t, &log, "Convert 1-2", "Takes 2-3", "Convert 2-3", "Back 4-3", "Takes 4-5", "Convert 4-5")
	v, ok, e := r.Ask(rec("p/5{a: 0}"), 4, "way")
	if v != "5-4" || !ok || e != api.OK {
		t.Error(told(v), ok, e)
	}
	mustLog(t, &log, "Back 4-5")
	if y, e = r.Convert(rec("p/5{}"), 1); told(y) != `p/1{way: "5-4 4-3 3-1"}` || e != api.OK {
		t.Error(told(y), e)
	}
	mustLog(t, &log, "Back 4-5", "Takes 4-3", "Convert 4-3", "Convert 3-1")
}

// P9.4: each is handed what the one ahead made, the first one what the record has.
func TestHandedOn(t *testing.T) {
	var seen []string
	sees := func(answer string) func(api.Dict) (api.Dict, api.Errno) {
		return func(d api.Dict) (api.Dict, api.Errno) {
			seen = append(seen, told(d))
			return rec("p/1" + answer).Fields, api.OK
		}
	}
	takes := func(d api.Dict) bool {
		seen = append(seen, "takes "+told(d))
		return true
	}
	r := made(t, with(partial, script{from: 1, to: 2, convert: sees("{b: 2}"), takes: takes}), with(7, script{from: 3, to: 2, back: sees("{c: 3}"), takes: takes}), with(7, script{from: 3, to: 4, convert: sees("{d: [4]}"), takes: takes}))
	y, e := r.Convert(rec("p/1{a: 1}"), 4)
	if told(y) != "p/4{d: [4]}" || e != api.OK {
		t.Error(told(y), e)
	}
	mustLog(t, &seen, "takes {a: 1}", "{a: 1}", "{b: 2}", "takes {c: 3}", "{c: 3}")
}

// The chain stands when the first converter is called: one that takes up others, or converts others, changes nothing of it.
func TestRegistryWithinConvert(t *testing.T) {
	var log []string
	r := new(convert.Registry)
	mustAdd(t, r, with(0, script{from: 1, to: 2, log: &log, meanwhile: func(method string) {
		if method != "Convert" {
			return
		}
		for n := 3; n <= 90; n++ {
			r.Add(with(0, script{from: 1, to: n, log: &log}))
			r.Add(with(0, script{from: 2, to: n, log: &log}))
		}
		log = nil
		mustConvert(t, r, rec("p/2{a: 5}"), 3, `p/3{a: 5, way: "2-3"}`)
		log = nil
	}}), 1)
	mustAdd(t, r, with(0, script{from: 2, to: 3, log: &log}), 2)
	mustAdd(t, r, with(0, script{from: 3, to: 4, log: &log}), 3)
	y, e := r.Convert(rec("p/1{a: 1}"), 4)
	if told(y) != `p/4{a: 1, way: "1-2 2-3 3-4"}` || e != api.OK {
		t.Error(told(y), e)
	}
	mustLog(t, &log, "Convert 2-3", "Convert 3-4")
	l, e := r.Chain("p", 1, 4)
	if len(l) != 1 || e != api.OK {
		t.Error("those that were taken up between do not count later:", l, e)
	}
}
