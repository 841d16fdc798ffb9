package lazy_test

import (
	"fmt"
	"math"
	"slices"
	"testing"

	"tenon/api"
	"tenon/lazy"
)

// P12.5: a room from 1 to MaxHeap, and somebody who fetches; a new pool has no ghosts.
func TestNewPool(t *testing.T) {
	s := &shelf{}
	for _, room := range []int{0, -1, math.MinInt, api.MaxHeap + 1, math.MaxInt} {
		for _, fetch := range []fetcher{s.fetch, nil} {
			if p, e := lazy.NewPool(room, fetch); p != nil || e != api.ErrArg {
				t.Error(room, p, e)
			}
		}
	}
	for _, room := range []int{1, 2, api.MaxHeap - 1, api.MaxHeap} {
		if p, e := lazy.NewPool(room, nil); p != nil || e != api.ErrArg {
			t.Error(room, p, e)
		}
		p := pool(t, room, s.fetch)
		mustHold(t, p)
		if p.Fetched() != 0 {
			t.Error(p.Fetched())
		}
		must(t, "Drop", p.Drop(1), api.ErrArg)
		must(t, "Clear", p.Clear(), api.OK)
	}
	mustAsked(t, s)
}

// P12.5: one ghost for each identity, the same each time, whatever became of it; nobody is fetched.
func TestAt(t *testing.T) {
	s := &shelf{}
	p, other := pool(t, 1, s.fetch), pool(t, 1, s.fetch)
	var ghosts []*lazy.Ghost
	ids := []api.Ref{1, 2, 3, 7, 1 << 32, 1 << 63, math.MaxUint64}
	for _, id := range ids {
		g := at(t, p, id)
		if g.ID() != id || slices.Contains(ghosts, g) || g == at(t, other, id) {
			t.Error(id, g.ID())
		}
		mustBe(t, g, false, api.OK)
		ghosts = append(ghosts, g)
	}
	mustAsked(t, s)
	mustHold(t, p)
	again := func(when string) {
		t.Helper()
		for i, id := range ids {
			if at(t, p, id) != ghosts[i] {
				t.Error(when, id, "is another one")
			}
		}
	}
	again("at once")
	use(t, p, ids...)
	again("used")
	must(t, "Drop", p.Drop(2), api.OK)
	must(t, "Drop", p.Drop(math.MaxUint64), api.OK)
	again("dropped")
	must(t, "Clear", p.Clear(), api.OK)
	again("cleared")
	if g, e := p.At(0); g != nil || e != api.ErrArg {
		t.Error(g, e)
	}
}

// Example 3.
func TestThirdExample(t *testing.T) {
	s := &shelf{}
	p := pool(t, 2, s.fetch)
	must(t, "Load", at(t, p, 1).Load(), api.OK)
	must(t, "Load", at(t, p, 2).Load(), api.OK)
	mustGet(t, at(t, p, 1), "a", api.Ref(1), true)
	must(t, "Load", at(t, p, 3).Load(), api.OK)
	mustHold(t, p, 1, 3)
	mustAsked(t, s, 1, 2, 3)
}

// act is something that is done with a pool that holds some ghosts, and with one of these.
type act struct {
	name string
	does func(p *lazy.Pool, g *lazy.Ghost)
}

// P12.3, P12.6: what is a use: a question to one that is loaded, whatever it answers.
func TestUses(t *testing.T) {
	for _, q := range questions() {
		for id, want := range map[api.Ref][]api.Ref{1: {2, 3, 1}, 2: {1, 3, 2}, 3: {1, 2, 3}} {
			s := &shelf{}
			p := pool(t, 3, s.fetch)
			use(t, p, 1, 2, 3)
			q.asks(at(t, p, id))
			mustHold(t, p, want...)
			mustAsked(t, s, 1, 2, 3)
			q.asks(at(t, p, 4))
			mustHold(t, p, want[1], want[2], 4)
			mustBe(t, at(t, p, want[0]), false, api.OK)
			mustAsked(t, s, 4)
		}
	}
}

// P12.5, P12.6: what is no use: all that needs no record, a Load of one that is loaded, and what is done with others.
func TestNoUses(t *testing.T) {
	for _, a := range []act{
		{"nothing", func(p *lazy.Pool, g *lazy.Ghost) {}},
		{"ID", func(p *lazy.Pool, g *lazy.Ghost) { g.ID() }},
		{"Loaded", func(p *lazy.Pool, g *lazy.Ghost) { g.Loaded() }},
		{"Last", func(p *lazy.Pool, g *lazy.Ghost) { g.Last() }},
		{"Load", func(p *lazy.Pool, g *lazy.Ghost) { g.Load() }},
		{"At", func(p *lazy.Pool, g *lazy.Ghost) { p.At(g.ID()) }},
		{"At of a new one", func(p *lazy.Pool, g *lazy.Ghost) { p.At(77) }},
		{"At of none", func(p *lazy.Pool, g *lazy.Ghost) { p.At(0) }},
		{"Held", func(p *lazy.Pool, g *lazy.Ghost) { p.Held() }},
		{"Fetched", func(p *lazy.Pool, g *lazy.Ghost) { p.Fetched() }},
		{"Drop of none", func(p *lazy.Pool, g *lazy.Ghost) { p.Drop(0); p.Drop(78) }},
		{"Drop of one that is not loaded", func(p *lazy.Pool, g *lazy.Ghost) { p.At(77); p.Drop(77) }},
		{"Forget of one that is not loaded", func(p *lazy.Pool, g *lazy.Ghost) { o, _ := p.At(77); o.Forget() }},
		{"a fetch that fails", func(p *lazy.Pool, g *lazy.Ghost) { o, _ := p.At(99); o.Load(); o.Get("a"); o.Class(); o.Version() }},
	} {
		for id := api.Ref(1); id <= 3; id++ {
			s := &shelf{}
			s.answers = func(id api.Ref) (*api.Record, api.Errno) {
				if id == 99 {
					return ordinary(id), api.ErrFull
				}
				return ordinary(id), api.OK
			}
			p := pool(t, 3, s.fetch)
			use(t, p, 1, 2, 3)
			a.does(p, at(t, p, id))
			mustHold(t, p, 1, 2, 3)
			must(t, "Load", at(t, p, 4).Load(), api.OK)
			if mustHold(t, p, 2, 3, 4); t.Failed() {
				t.Fatal(a.name)
			}
		}
	}
}

// P12.6, P12.9: when one becomes loaded, by whatever call, and there are more than room, the one that was used longest ago goes, and fetches anew when it is asked.
func TestRoom(t *testing.T) {
	loads := append(questions(), question{"Load", func(g *lazy.Ghost) string { return g.Load().Error() }, ""})
	for room := 1; room <= 5; room++ {
		for _, q := range loads {
			s := &shelf{}
			p := pool(t, room, s.fetch)
			var want []api.Ref
			for id := api.Ref(1); id <= 12; id++ {
				q.asks(at(t, p, id))
				if want = append(want, id); len(want) > room {
					want = want[1:]
				}
				mustHold(t, p, want...)
				for other := api.Ref(1); other <= 12; other++ {
					mustBe(t, at(t, p, other), slices.Contains(want, other), api.OK)
				}
				mustAsked(t, s, id)
			}
			q.asks(at(t, p, 1))
			mustAsked(t, s, 1)
			if p.Fetched() != 13 {
				t.Error(p.Fetched())
			}
			mustTell(t, at(t, p, 1), ordinary(1))
		}
	}
}

// P12.5, P12.9: the greatest room holds so many, and not one more.
func TestGreatestRoom(t *testing.T) {
	s := &shelf{}
	p := pool(t, api.MaxHeap, s.fetch)
	var want []api.Ref
	for id := api.Ref(1); id <= api.MaxHeap; id++ {
		must(t, id, at(t, p, id).Load(), api.OK)
		want = append(want, id)
	}
	mustHold(t, p, want...)
	use(t, p, 1, 3)
	want = append([]api.Ref{2}, append(want[3:], 1, 3)...)
	mustHold(t, p, want...)
	use(t, p, api.MaxHeap+1)
	want = append(want[1:], api.MaxHeap+1)
	mustHold(t, p, want...)
	mustBe(t, at(t, p, 2), false, api.OK)
	mustTell(t, at(t, p, 3), ordinary(3))
	must(t, "Clear", p.Clear(), api.OK)
	mustHold(t, p)
	if p.Fetched() != api.MaxHeap+1 || len(s.asked) != api.MaxHeap+1 {
		t.Error(p.Fetched(), len(s.asked))
	}
}

// P12.5: there is no end to the ghosts that are not loaded.
func TestManyGhosts(t *testing.T) {
	s := &shelf{}
	p := pool(t, 1, s.fetch)
	for id := api.Ref(1); id <= 10*api.MaxHeap; id++ {
		if g := at(t, p, id*id*id); g.ID() != id*id*id {
			t.Fatal(id, g.ID())
		}
	}
	mustAsked(t, s)
	use(t, p, 27, 8)
	mustHold(t, p, 8)
}

// P12.6: how often fetch was called, whatever it answered; each pool counts its own.
func TestFetched(t *testing.T) {
	s := &shelf{}
	p, other := pool(t, 2, s.fetch), pool(t, 2, s.fetch)
	want := 0
	fetched := func(when string, more int) {
		t.Helper()
		if want += more; p.Fetched() != want || other.Fetched() != 0 {
			t.Error(when, p.Fetched(), want, other.Fetched())
		}
	}
	for _, f := range fails() {
		s.answers = f.fetch
		must(t, f.name, at(t, p, 1).Load(), f.why)
		fetched(f.name, 1)
		at(t, p, 2).Get("a")
		fetched(f.name, 1)
		mustHold(t, p)
	}
	s.answers = nil
	use(t, p, 1, 1, 2, 1)
	fetched("used", 2)
	use(t, p, 3, 1, 2)
	fetched("used", 2)
	p.Drop(1)
	p.Clear()
	fetched("cleared", 0)
	at(t, p, 1).Load()
	fetched("loaded", 1)
	ghost(t, 1, s.fetch).Load()
	fetched("of its own", 0)
}

// P12.6: Drop is Forget of the one that is meant; of none that was asked for it is wrong.
func TestDrop(t *testing.T) {
	s := &shelf{}
	p := pool(t, 3, s.fetch)
	for _, id := range []api.Ref{0, 1, 4, math.MaxUint64} {
		must(t, fmt.Sprint("Drop ", id), p.Drop(id), api.ErrArg)
	}
	at(t, p, 4)
	must(t, "Drop", p.Drop(4), api.OK)
	for id, want := range map[api.Ref][]api.Ref{1: {2, 3}, 2: {1, 3}, 3: {1, 2}, 4: {1, 2, 3}} {
		for _, drop := range []func(api.Ref) api.Errno{p.Drop, func(id api.Ref) api.Errno { return at(t, p, id).Forget() }} {
			must(t, "Clear", p.Clear(), api.OK)
			use(t, p, 1, 2, 3)
			for range 2 {
				must(t, id, drop(id), api.OK)
				mustHold(t, p, want...)
				mustBe(t, at(t, p, id), false, api.OK)
			}
			must(t, "Drop of 0", p.Drop(0), api.ErrArg)
			must(t, "Drop of one that was not asked for", p.Drop(9), api.ErrArg)
			s.asked = nil
			use(t, p, 5, 6) // there is room for one more than before
			if id != 4 {
				want := append(slices.Clone(want), 5, 6)[1:]
				mustHold(t, p, want...)
			} else {
				mustHold(t, p, 3, 5, 6)
			}
			mustAsked(t, s, 5, 6)
		}
	}
}

// P12.6: behind Clear none is loaded, and each fetches anew.
func TestClear(t *testing.T) {
	for room := 1; room <= 4; room++ {
		s := &shelf{}
		p := pool(t, room, s.fetch)
		for n := range 6 {
			for id := 1; id <= n; id++ {
				use(t, p, api.Ref(id))
			}
			for range 2 {
				must(t, "Clear", p.Clear(), api.OK)
				mustHold(t, p)
				for id := api.Ref(1); id <= 6; id++ {
					mustBe(t, at(t, p, id), false, api.OK)
				}
			}
		}
		s.asked = nil
		use(t, p, 2, 1, 2)
		if room == 1 {
			mustAsked(t, s, 2, 1, 2)
			mustHold(t, p, 2)
		} else {
			mustAsked(t, s, 2, 1)
			mustHold(t, p, 1, 2)
		}
	}
}

// Two pools, and a ghost of its own, know nothing of one another.
func TestApartFromOthers(t *testing.T) {
	s := &shelf{}
	p, other, g := pool(t, 1, s.fetch), pool(t, 2, s.fetch), ghost(t, 1, s.fetch)
	use(t, p, 1)
	use(t, other, 2, 1)
	g.Load()
	use(t, p, 2)
	mustHold(t, p, 2)
	mustHold(t, other, 2, 1)
	mustBe(t, g, true, api.OK)
	must(t, "Clear", other.Clear(), api.OK)
	must(t, "Forget", g.Forget(), api.OK)
	mustHold(t, p, 2)
	mustAsked(t, s, 1, 2, 1, 1, 2)
}
