package convert_test

import (
	"testing"

	"tenon/api"
	"tenon/convert"
	"tenon/sample"
)

// throwing panics with something in one method.
func throwing(method string, thrown any) func(string) {
	return func(m string) {
		if m == method {
			panic(thrown)
		}
	}
}

// P9.7, P9.1: a panic while it is asked is told; nothing is taken up, and the Registry goes on.
func TestAddPanics(t *testing.T) {
	r := made(t, both(1, 2), dear(1, 3, 5))
	before := all(r)
	var log []string
	for _, thrown := range sample.Thrown() {
		for set := range 8 {
			for i, method := range []string{"From", "To", "Cost"} {
				if method == "Cost" && set&costed == 0 {
					continue
				}
				mustRefuse(t, r, with(set, script{from: 2, to: 3, log: &log, meanwhile: throwing(method, thrown)}), api.ErrPanic)
				mustLog(t, &log, []string{"From 2-3", "To 2-3", "Cost 2-3"}[:i+1]...)
			}
		}
		mustRefuse(t, r, exactly(0, script{meanwhile: throwing("To", thrown)}), api.ErrPanic)
	}
	if all(r) != before {
		t.Error("something was taken up")
	}
	for set := range 8 {
		c := with(set, script{from: 2, to: 3 + set, meanwhile: func(m string) {
			if m == "Takes" || m == "Convert" || m == "Back" {
				panic("not asked for")
			}
		}})
		mustAdd(t, r, c, 3+set)
	}
	mustChain(t, r, 1, 3, 1, 3)
}

// P9.7, P9.3: a panic while a record is converted is told, wherever it comes and with whatever; nobody else is called, and the next record is converted.
func TestConvertPanics(t *testing.T) {
	for _, thrown := range sample.Thrown() {
		for _, x := range []struct {
			method   string
			set      int
			from, to int
			called   []string
		}{
			{"Convert", 0, 1, 4, []string{"Convert 1-2", "Convert 2-3"}}, {"Convert", 7, 2, 3, []string{"Takes 2-3", "Convert 2-3"}}, {"Takes", partial, 1, 4, []string{"Convert 1-2", "Takes 2-3"}}, {"Takes", 7, 2, 4, []string{"Takes 2-3"}},
			{"Back", reversible, 3, 2, []string{"Back 2-3"}}, {"Back", 7, 4, 2, []string{"Back 3-4", "Back 2-3"}},
		} {
			var log []string
			throws := false
			r := made(t, with(0, script{from: 1, to: 2, log: &log}), with(x.set, script{from: 2, to: 3, log: &log, meanwhile: func(m string) {
				if throws && m == x.method {
					panic(thrown)
				}
			}}), with(reversible, script{from: 3, to: 4, log: &log}))
			before := all(r)
			log, throws = nil, true
			in := sample.Record("p", x.from, sample.Field("a", api.List{nil}))
			if y, e := r.Convert(in, x.to); y != nil || e != api.ErrPanic {
				t.Errorf("%s with %T: %s, %d", x.method, thrown, told(y), e)
			}
			mustLog(t, &log, x.called...)
			mustFail(t, r, in, x.to, api.ErrPanic)
			if all(r) != before || told(in.Fields) != "{a: [nil]}" {
				t.Error(x.method, "something was changed")
			}
			throws = false
			if y, e := r.Convert(in, x.to); y == nil || y.Version != x.to || e != api.OK {
				t.Errorf("%s: %s, %d", x.method, told(y), e)
			}
		}
	}
}

// P9.7: Go's own errors, and panics behind an answer or behind another panic, are caught as any others.
func TestOtherPanics(t *testing.T) {
	var none map[string]int
	for i, does := range []func(api.Dict) (api.Dict, api.Errno){
		func(d api.Dict) (api.Dict, api.Errno) { return d[:cap(d)+1], api.OK },
		func(d api.Dict) (api.Dict, api.Errno) { none["a"] = len(d); return d, api.OK },
		func(d api.Dict) (api.Dict, api.Errno) { d[0].Value = d[0].Value.(string); return d, api.OK },
		func(d api.Dict) (api.Dict, api.Errno) { defer panic("behind"); return d, api.OK },
		func(d api.Dict) (api.Dict, api.Errno) { defer panic("behind"); return nil, api.ErrFull },
		func(d api.Dict) (api.Dict, api.Errno) { defer panic(2); panic(1) },
		func(d api.Dict) (api.Dict, api.Errno) { sample.Spoil(d); panic(d) },
		nil,
	} {
		c := doing(1, 2, does)
		if does == nil {
			c = struct{ missing }{}
		}
		r := made(t, c, plain(2, 3))
		x := rec("p/1{a: [1]}")
		mustFail(t, r, x, 2, api.ErrPanic)
		mustFail(t, r, x, 3, api.ErrPanic)
		if told(x) != "p/1{a: [1]}" {
			t.Error(i, told(x))
		}
		mustConvert(t, r, rec("p/2{}"), 3, `p/3{way: "2-3"}`)
	}
	kept := func(d api.Dict) (e api.Dict, f api.Errno) {
		defer func() { recover() }()
		panic("its own affair")
	}
	mustConvert(t, made(t, doing(1, 2, kept)), rec("p/1{a: 1}"), 2, "p/2{}")
}

// missing has no function to do what it should.
type missing struct{ does func(api.Dict) api.Dict }

func (m missing) From() (string, int)                      { return "p", 1 }
func (m missing) To() int                                  { return 2 }
func (m missing) Convert(d api.Dict) (api.Dict, api.Errno) { return m.does(d), api.OK }

// P9.7: a panic within a call that a converter makes of its own Registry is told to that one.
func TestPanicWithin(t *testing.T) {
	var r convert.Registry
	var inner api.Errno
	mustAdd(t, &r, doing(1, 2, func(d api.Dict) (api.Dict, api.Errno) { panic(1) }), 1)
	mustAdd(t, &r, doing(2, 3, func(d api.Dict) (api.Dict, api.Errno) {
		_, inner = r.Convert(rec("p/1{}"), 2)
		return d, api.OK
	}), 2)
	mustAdd(t, &r, doing(3, 4, func(d api.Dict) (api.Dict, api.Errno) {
		x, e := r.Convert(rec("p/1{}"), 2)
		return x.Fields, e
	}), 3)
	mustConvert(t, &r, rec("p/2{a: 1}"), 3, "p/3{a: 1}")
	if inner != api.ErrPanic {
		t.Error(inner)
	}
	mustFail(t, &r, rec("p/2{a: 1}"), 4, api.ErrPanic)
}
