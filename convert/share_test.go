package convert_test

import (
	"slices"
	"testing"

	"tenon/api"
	"tenon/convert"
	"tenon/sample"
	"tenon/value"
)

// roomy is a record of class p with spare room, and with one list, dict, record and run of bytes at several places.
func roomy(version int) *api.Record {
	v := sample.Twofold()
	d := append(make(api.Dict, 0, 4), sample.Field("a", v), sample.Field("b", v), sample.Field("room", "x"), sample.Field("room", "y"))
	return sample.Record("p", version, d[:2]...)
}

// kept tells whether a record is still as roomy made it, spare room too.
func kept(x *api.Record, version int) bool {
	d := x.Fields[:4]
	return value.Same(x, roomy(version)) && sample.RoomKept(d[0].Value) && d[2] == sample.Field("room", "x") && d[3] == sample.Field("room", "y")
}

// same answers what it is handed; holding answers always the same fields, which it keeps.
func same(d api.Dict) (api.Dict, api.Errno) { return d, api.OK }

func holding(d api.Dict) func(api.Dict) (api.Dict, api.Errno) { return answering(d, api.OK) }

// Memory: what is handed in stays as it is, whatever the converters do with what they are handed.
func TestHandedInStays(t *testing.T) {
	spoils := func(d api.Dict) (api.Dict, api.Errno) {
		sample.Spoil(d)
		return nil, api.OK
	}
	spoilsTakes := func(d api.Dict) bool {
		sample.Spoil(d)
		return true
	}
	grows := func(d api.Dict) (api.Dict, api.Errno) {
		return append(d, sample.Field("c", nil)), api.OK
	}
	for i, does := range []func(api.Dict) (api.Dict, api.Errno){spoils, grows, same} {
		r := made(t, with(7, script{from: 1, to: 2, takes: spoilsTakes, convert: does, back: does}))
		for from, to := range map[int]int{1: 2, 2: 1, 3: 3} {
			x := roomy(from)
			if _, e := r.Convert(x, to); e != api.OK {
				t.Error(i, e)
			}
			if _, _, e := r.Ask(x, to, "a"); e != api.OK {
				t.Error(i, e)
			}
			if !kept(x, from) {
				t.Error(i, from, "the record has changed")
			}
		}
	}
}

// P9.3: Takes is handed a copy of its own: what it writes into that is not what Convert is handed.
func TestTakesHasItsOwn(t *testing.T) {
	var mine api.Dict
	takes := func(d api.Dict) bool {
		mine = d
		sample.Spoil(d)
		return true
	}
	converts := func(d api.Dict) (api.Dict, api.Errno) {
		if !value.Same(d, roomy(1).Fields) {
			t.Error("Convert is handed", told(d))
		}
		sample.Spoil(mine)
		return d, api.OK
	}
	r := made(t, with(partial, script{from: 1, to: 2, takes: takes, convert: converts}))
	x := roomy(1)
	y, e := r.Convert(x, 2)
	sample.Spoil(mine)
	if !value.Same(y, roomy(2)) || !kept(x, 1) || e != api.OK {
		t.Error(told(y), e)
	}
}

// P9.3: what a converter kept of what it was handed, or of what it answered, is nobody else's: it may write into it whenever it likes.
func TestConverterGoesOnWriting(t *testing.T) {
	var held []api.Dict
	spoilAll := func() {
		for _, d := range held {
			sample.Spoil(d)
		}
	}
	keeps := func(d api.Dict) (api.Dict, api.Errno) {
		spoilAll()
		answer := roomy(1).Fields
		held = append(held, d, answer)
		return answer, api.OK
	}
	takes := func(d api.Dict) bool {
		spoilAll()
		held = append(held, d)
		return true
	}
	hands := func(d api.Dict) (api.Dict, api.Errno) {
		spoilAll()
		held = append(held, d)
		return d, api.OK
	}
	r := made(t, with(partial, script{from: 1, to: 2, convert: keeps, takes: takes}), with(7, script{from: 2, to: 3, convert: hands, takes: takes}), with(7, script{from: 4, to: 3, back: keeps}), with(7, script{from: 5, to: 4, back: hands}), with(0, script{from: 5, to: 6, convert: hands}))
	x := roomy(1)
	first, e := r.Convert(x, 6)
	second, f := r.Convert(x, 6)
	v, ok, g := r.Ask(x, 5, "a")
	spoilAll()
	if !value.Same(first, roomy(6)) || !value.Same(second, roomy(6)) || e != api.OK || f != api.OK {
		t.Error(told(first), told(second), e, f)
	}
	if !value.Same(v, sample.Twofold()) || !ok || g != api.OK {
		t.Error(told(v), ok, g)
	}
	if !kept(x, 1) {
		t.Error("the record has changed:", told(x))
	}
}

// A converter may hold the record itself that is converted, and write into it: what was handed in is what counts.
func TestRecordWrittenIntoMeanwhile(t *testing.T) {
	var x *api.Record
	spoils := func(string) { sample.Spoil(x) }
	r := made(t, with(partial, script{from: 1, to: 2, meanwhile: spoils}), with(partial, script{from: 2, to: 3, meanwhile: spoils}))
	x = rec("p/1{a: [1, #02], b: 3}")
	y, e := r.Convert(x, 3)
	if told(y) != `p/3{a: [1, #02], b: 3, way: "1-2 2-3"}` || e != api.OK {
		t.Error(told(y), e)
	}
}

// Memory: an answer shares nothing with the record, with a converter, with another answer, nor one of its lists with another.
func TestAnswersApart(t *testing.T) {
	own := roomy(1).Fields
	r := made(t, with(reversible, script{from: 1, to: 2, convert: same, back: same}), doing(2, 3, holding(own)))
	for _, way := range [][2]int{{1, 1}, {1, 2}, {2, 1}, {1, 3}} {
		from, to := way[0], way[1]
		x := roomy(from)
		first, e := r.Convert(x, to)
		second, _ := r.Convert(x, to)
		v, _, f := r.Ask(x, to, "a")
		if e != api.OK || f != api.OK || !value.Same(first, roomy(to)) {
			t.Fatal(way, e, f)
		}
		if at, ok := sample.Apart(first, v, second, x, own); !ok {
			t.Error(way, at, "shares memory")
		}
		copy(own[:4], roomy(1).Fields[:4])
		one, _ := r.Convert(roomy(from), to)
		if at, ok := sample.Apart(one.Fields[0].Value, one.Fields[1].Value); !ok {
			t.Error(way, at, "shares memory with another field")
		}
		one, _ = r.Convert(roomy(from), to)
		if at, ok := sample.Apart(one.Fields[0].Value.(api.List)...); !ok {
			t.Error(way, at, "shares memory with another part")
		}
		if v, _, _ = r.Ask(roomy(from), to, "b"); !value.Same(v, sample.Twofold()) {
			t.Error(way, "the converter's fields have changed")
		}
		if at, ok := sample.Apart(v.(api.List)...); !ok {
			t.Error(way, at, "shares memory with another part of what Ask tells")
		}
	}
}

// Memory: whoever writes into what Chain and Versions answer changes neither the Registry nor another answer.
func TestListsApart(t *testing.T) {
	r := made(t, both(1, 2), both(2, 3), both(3, 4), both(4, 5), dear(1, 5, 9))
	before := all(r)
	for range 2 {
		for name, asks := range map[string]func() []int{
			"Chain": func() []int { l, _ := r.Chain("p", 5, 1); return l }, "Versions": func() []int { l, _ := r.Versions("p", 3); return l },
		} {
			one, other := asks(), asks()
			want := slices.Clone(other)
			one = one[:cap(one)]
			for i := range one {
				one[i] = -77
			}
			if !slices.Equal(other, want) || !slices.Equal(asks(), want) || all(r) != before {
				t.Error(name, "shares memory")
			}
		}
	}
}

// P9.1: a converter that becomes another one later is kept as what it told.
func TestConverterBecomesAnother(t *testing.T) {
	var r convert.Registry
	s := &script{class: "person", from: 1, to: 2}
	mustAdd(t, &r, basic{s}, 1)
	s.class, s.from, s.to, s.cost = "other", 5, 6, 7
	if l, e := r.Chain("person", 1, 2); !slices.Equal(l, []int{1}) || e != api.OK {
		t.Error(l, e)
	}
	if l, e := r.Chain("other", 5, 6); len(l) != 0 || e != api.ErrChain {
		t.Error(l, e)
	}
}
