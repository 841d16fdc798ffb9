package lazy_test

import (
	"slices"
	"testing"

	"tenon/api"
	"tenon/lazy"
	"tenon/sample"
	"tenon/value"
)

// roomy is a record with spare room, and with one list, dict, record and run of bytes at several places.
func roomy() *api.Record {
	v := sample.Twofold()
	d := append(make(api.Dict, 0, 4), sample.Field("a", v), sample.Field("b", v), sample.Field("room", "x"), sample.Field("room", "y"))[:2]
	return sample.Record("p", 3, d...)
}

// kept tells whether a record is still as roomy made it, spare room too.
func kept(r *api.Record) bool {
	room := r.Fields[:4]
	return value.Same(r, roomy()) && sample.RoomKept(r.Fields[0].Value) && room[2] == sample.Field("room", "x") && room[3] == sample.Field("room", "y")
}

// P12.10: a ghost neither changes what fetch answered nor keeps it: who writes into it changes no ghost.
func TestRecordApart(t *testing.T) {
	for _, m := range makers() {
		r := roomy()
		answer := func(api.Ref) (*api.Record, api.Errno) { return r, api.OK }
		g, h := m.makes(t, 7, answer), m.makes(t, 8, answer)
		must(t, m.name, g.Load(), api.OK)
		mustTell(t, h, roomy())
		mustTell(t, g, roomy())
		if !kept(r) {
			t.Error(m.name, "the record has changed")
		}
		sample.Spoil(r)
		mustTell(t, g, roomy())
		mustTell(t, h, roomy())
		must(t, "Forget", g.Forget(), api.OK)
		must(t, m.name, g.Load(), api.ErrArg) // what is written there has no version
		mustTell(t, h, roomy())
	}
}

// P12.10: what Get answers is nobody else's: who writes into it changes neither the ghost nor another answer.
func TestAnswersApart(t *testing.T) {
	for _, m := range makers() {
		r := roomy()
		g := m.makes(t, 7, func(api.Ref) (*api.Record, api.Errno) { return r, api.OK })
		a, _ := g.Get("a")
		again, _ := g.Get("a")
		b, _ := g.Get("b")
		if i, ok := sample.Apart(a, again, b); !ok {
			t.Error(m.name, i, "shares memory")
		}
		if !kept(r) {
			t.Error(m.name, "the record has changed")
		}
		a, _ = g.Get("a")
		if i, ok := sample.Apart(a.(api.List)...); !ok {
			t.Error(m.name, i, "shares memory with another part")
		}
		mustTell(t, g, roomy())
		held, _ := g.Get("a")
		must(t, "Forget", g.Forget(), api.OK)
		must(t, "Load", g.Load(), api.OK)
		sample.Spoil(r)
		if !value.Same(held, sample.Twofold()) {
			t.Error(m.name, "an answer hangs on the record")
		}
		sample.Spoil(held)
		mustTell(t, g, roomy())
	}
}

// P12.10: a fetch may answer one and the same record each time, and write it anew; each ghost tells what stood there when it was fetched.
func TestFetchGoesOnWriting(t *testing.T) {
	var r api.Record
	l := api.List{nil}
	s := &shelf{answers: func(id api.Ref) (*api.Record, api.Errno) {
		l[0] = id
		r.Class, r.Version, r.Fields = "p", int(id), append(r.Fields[:0], sample.Field("a", l))
		return &r, api.OK
	}}
	p := pool(t, 5, s.fetch)
	use(t, p, 1, 2, 3, 4, 5)
	for id := api.Ref(1); id <= 5; id++ {
		mustTell(t, at(t, p, id), sample.Record("p", int(id), sample.Field("a", api.List{id})))
	}
	mustAsked(t, s, 1, 2, 3, 4, 5)
}

// P12.10: a fetch may answer what another ghost told, and what it holds itself elsewhere; they stay apart.
func TestFetchAnswersWhatWasTold(t *testing.T) {
	var answer *api.Record
	var p *lazy.Pool
	p = pool(t, 2, func(id api.Ref) (*api.Record, api.Errno) {
		if id == 1 {
			return roomy(), api.OK
		}
		v, _ := at(t, p, 1).Get("a")
		answer = sample.Record("q", 1, sample.Field("a", v))
		return answer, api.OK
	})
	use(t, p, 2)
	sample.Spoil(answer)
	mustTell(t, at(t, p, 1), roomy())
	mustTell(t, at(t, p, 2), sample.Record("q", 1, sample.Field("a", sample.Twofold())))
}

// Memory: the list of those that are held is new each time, spare room too.
func TestHeldApart(t *testing.T) {
	p := pool(t, 4, (&shelf{}).fetch)
	use(t, p, 1, 2, 3)
	first, second := p.Held(), p.Held()
	for _, l := range [][]api.Ref{first[:cap(first)], append(first, 77)} {
		for i := range l {
			l[i] = 99
		}
	}
	if !slices.Equal(second, []api.Ref{1, 2, 3}) {
		t.Error(second)
	}
	mustHold(t, p, 1, 2, 3)
	use(t, p, 1, 4, 5)
	p.Drop(4)
	if !slices.Equal(second, []api.Ref{1, 2, 3}) {
		t.Error(second)
	}
	mustHold(t, p, 3, 1, 5)
}
