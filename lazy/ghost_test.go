package lazy_test

import (
	"fmt"
	"math"
	"testing"

	"tenon/api"
	"tenon/lazy"
	"tenon/object"
	"tenon/sample"
)

// P12.1: an identity of 0 and nobody who fetches are wrong; a ghost that is made has fetched nothing.
func TestNew(t *testing.T) {
	s := &shelf{}
	for i, x := range []struct {
		id    api.Ref
		fetch fetcher
	}{{0, s.fetch}, {0, nil}, {1, nil}, {math.MaxUint64, nil}} {
		if g, e := lazy.New(x.id, x.fetch); g != nil || e != api.ErrArg {
			t.Error(i, g, e)
		}
	}
	for _, id := range []api.Ref{1, 2, 7, 1 << 63, math.MaxUint64} {
		for _, m := range makers() {
			g := m.makes(t, id, s.fetch)
			if g.ID() != id {
				t.Error(m.name, g.ID(), id)
			}
			mustBe(t, g, false, api.OK)
			mustAsked(t, s)
			must(t, m.name, g.Load(), api.OK)
			mustAsked(t, s, id)
			mustTell(t, g, ordinary(id))
			mustAsked(t, s)
		}
	}
	if ghost(t, 1, s.fetch) == ghost(t, 1, s.fetch) {
		t.Error("one ghost, made twice")
	}
}

// Example 1.
func TestFirstExample(t *testing.T) {
	s := &shelf{answers: func(api.Ref) (*api.Record, api.Errno) {
		return sample.Record("person", 1, sample.Field("name", "ann")), api.OK
	}}
	g := ghost(t, 7, s.fetch)
	mustBe(t, g, false, api.OK)
	mustGet(t, g, "name", "ann", true)
	mustAsked(t, s, 7)
	mustGet(t, g, "age", nil, false)
	must(t, "Forget", g.Forget(), api.OK)
	if c := g.Class(); c != "person" {
		t.Error(c)
	}
	mustAsked(t, s, 7)
}

// P12.2, P12.7: Load fetches once, with the ghost's identity, and not again while it is loaded.
func TestLoad(t *testing.T) {
	for _, m := range makers() {
		s := &shelf{}
		g := m.makes(t, 7, s.fetch)
		must(t, m.name, g.Load(), api.OK)
		mustAsked(t, s, 7)
		mustBe(t, g, true, api.OK)
		for range 3 {
			must(t, m.name, g.Load(), api.OK)
			mustTell(t, g, ordinary(7))
		}
		mustAsked(t, s)
	}
}

// P12.3, P12.7: each question fetches, if there is nothing yet, and only then; ID, Loaded and Last never do.
func TestQuestionsFetch(t *testing.T) {
	for _, m := range makers() {
		for _, q := range questions() {
			s := &shelf{}
			g := m.makes(t, 7, s.fetch)
			want := q.asks(loadedGhost(t, 7))
			for range 3 {
				if g.ID() != 7 {
					t.Error(g.ID())
				}
				mustBe(t, g, false, api.OK)
			}
			mustAsked(t, s)
			if got := q.asks(g); got != want {
				t.Error(m.name, q.name, got, want)
			}
			mustAsked(t, s, 7)
			mustBe(t, g, true, api.OK)
			if got := q.asks(g); got != want {
				t.Error(m.name, q.name, got, want)
			}
			mustTell(t, g, ordinary(7))
			mustAsked(t, s)
		}
	}
}

// loadedGhost is one with an ordinary record.
func loadedGhost(t *testing.T, id api.Ref) *lazy.Ghost {
	t.Helper()
	g := ghost(t, id, (&shelf{}).fetch)
	must(t, "Load", g.Load(), api.OK)
	return g
}

// P12.3, P12.10: whatever a record holds that can be, the ghost tells it, under each of its names and no other.
func TestEveryRecord(t *testing.T) {
	records := []*api.Record{sample.Record("a", 1), sample.Record("z_9", api.MaxVersion, sample.Fields(api.MaxItems)...), sample.Record("a", 1, sample.Field("a", sample.Within(api.MaxDepth-1, nil)))}
	for i, name := range sample.GoodNames() {
		records = append(records, sample.Record(name, i+1, sample.Field(name, name)))
	}
	for _, v := range sample.Rising() {
		records = append(records, sample.Record("p", 3, sample.Field("a", v), sample.Field("b", api.List{v, v}), sample.Field("c", true)))
		if r, ok := v.(*api.Record); ok {
			records = append(records, r)
		}
	}
	for _, m := range makers() {
		for _, r := range records {
			mustTell(t, m.makes(t, 9, func(api.Ref) (*api.Record, api.Errno) { return r, api.OK }), r)
		}
	}
}

// P12.4: a ghost that forgets is one again: it has nothing, and fetches anew when it is asked; Forget itself fetches nothing.
func TestForget(t *testing.T) {
	for _, m := range makers() {
		n := 0
		s := &shelf{answers: func(api.Ref) (*api.Record, api.Errno) {
			n++
			return sample.Record("p", n, sample.Field(fmt.Sprint("f", n), int64(n))), api.OK
		}}
		g := m.makes(t, 7, s.fetch)
		must(t, "Forget of nothing", g.Forget(), api.OK)
		mustBe(t, g, false, api.OK)
		mustAsked(t, s)
		for round := 1; round < 5; round++ {
			must(t, m.name, g.Load(), api.OK)
			mustTell(t, g, sample.Record("p", round, sample.Field(fmt.Sprint("f", round), int64(round))))
			mustGet(t, g, fmt.Sprint("f", round-1), nil, false)
			mustAsked(t, s, 7)
			for range 2 {
				must(t, "Forget", g.Forget(), api.OK)
				mustBe(t, g, false, api.OK)
			}
			mustAsked(t, s)
		}
		if g.ID() != 7 {
			t.Error(g.ID())
		}
	}
}

// P12.3: Last is the reason of the last call of fetch; neither a question of what is there nor Forget changes it.
func TestLast(t *testing.T) {
	for _, m := range makers() {
		var e api.Errno
		s := &shelf{answers: func(id api.Ref) (*api.Record, api.Errno) { return ordinary(id), e }}
		g := m.makes(t, 7, s.fetch)
		for _, e = range []api.Errno{api.ErrFull, api.OK, api.ErrIdentity, -5, api.OK, api.OK, api.ErrArg} {
			must(t, m.name, g.Load(), e)
			mustBe(t, g, e == api.OK, e)
			g.ID()
			must(t, "Forget", g.Forget(), api.OK)
			mustBe(t, g, false, e)
			g.Class()
			mustBe(t, g, e == api.OK, e)
			must(t, "Forget", g.Forget(), api.OK)
		}
		mustAsked(t, s, 7, 7, 7, 7, 7, 7, 7, 7, 7, 7, 7, 7, 7, 7)
	}
}

// P3: a ghost has just the abilities Versioned and Lazy, loaded or not; to tell so fetches nothing.
func TestAbilitiesOfGhost(t *testing.T) {
	for _, m := range makers() {
		s := &shelf{}
		g := m.makes(t, 7, s.fetch)
		for range 2 {
			if has, e := object.Abilities(g); has != api.IsVersioned+api.IsLazy || e != api.OK {
				t.Error(m.name, has, e)
			}
			_, versioned := object.As[api.Versioned](g)
			_, indexed := object.As[api.Indexed](g)
			_, owned := object.As[api.Owned](g)
			_, isLazy := object.As[api.Lazy](g)
			if !versioned || indexed || owned || !isLazy || object.Holds(g) != api.Something {
				t.Error(m.name, versioned, indexed, owned, isLazy)
			}
			if one, e := object.One(g, g); !one || e != api.OK {
				t.Error(one, e)
			}
			mustAsked(t, s)
			g.Load()
			s.asked = nil
		}
	}
}
