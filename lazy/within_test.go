package lazy_test

import (
	"slices"
	"testing"

	"tenon/api"
	"tenon/lazy"
	"tenon/object"
)

// mustBeBusy is of a ghost that is being fetched: it has nothing, can neither be loaded nor forgotten, and fetches nothing.
func mustBeBusy(t *testing.T, g *lazy.Ghost, id api.Ref, last api.Errno) {
	t.Helper()
	if g.ID() != id {
		t.Error(g.ID(), id)
	}
	for range 2 {
		mustBe(t, g, false, last)
		must(t, "Load", g.Load(), api.ErrBusy)
		must(t, "Forget", g.Forget(), api.ErrBusy)
		for _, q := range questions() {
			if got := q.asks(g); got != q.empty {
				t.Error(q.name, got)
			}
		}
	}
	must(t, "object.Load", object.Load(g), api.ErrBusy)
	if v, has, e := object.Ask(g, "a"); v != nil || has || e != api.ErrBusy {
		t.Error(v, has, e)
	}
	mustBe(t, g, false, last)
}

// P12.2, P12.3, P12.4, P12.7: whoever fetches asks the ghost that is fetched by each of its methods; that changes nothing of what comes of it, however it ends.
func TestAsksItself(t *testing.T) {
	for _, m := range makers() {
		ends := append(fails(), failing{"answers", func(id api.Ref) (*api.Record, api.Errno) { return ordinary(id), api.OK }, api.OK})
		s := &shelf{}
		var g *lazy.Ghost
		last := api.OK
		g = m.makes(t, 7, s.fetch)
		for _, f := range ends {
			s.answers = func(id api.Ref) (*api.Record, api.Errno) {
				mustBeBusy(t, g, 7, last)
				return f.fetch(id)
			}
			must(t, f.name, g.Load(), f.why)
			mustAsked(t, s, 7)
			last = f.why
			mustBe(t, g, f.why == api.OK, last)
			must(t, "Forget", g.Forget(), api.OK)
			g.Get("a")
			mustAsked(t, s, 7)
			must(t, "Forget", g.Forget(), api.OK)
		}
	}
}

// A fetch of a pool that asks the pool for the one that is fetched, for Held and Fetched, and drops and clears.
func TestAsksItsPool(t *testing.T) {
	s := &shelf{}
	p := pool(t, 3, s.fetch)
	use(t, p, 1, 2)
	g := at(t, p, 5)
	s.answers = func(id api.Ref) (*api.Record, api.Errno) {
		if at(t, p, 5) != g {
			t.Error("another one")
		}
		mustBeBusy(t, g, 5, api.OK)
		mustHold(t, p, 1, 2)
		if p.Fetched() != 3 {
			t.Error(p.Fetched())
		}
		must(t, "Drop", p.Drop(5), api.ErrBusy)
		must(t, "Clear", p.Clear(), api.ErrBusy)
		must(t, "Drop of 0", p.Drop(0), api.ErrArg)
		must(t, "Drop of none", p.Drop(8), api.ErrArg)
		if none, e := p.At(0); none != nil || e != api.ErrArg {
			t.Error(none, e)
		}
		mustBe(t, at(t, p, 8), false, api.OK)
		must(t, "Drop of a new one", p.Drop(8), api.OK)
		mustHold(t, p, 1, 2)
		return ordinary(id), api.OK
	}
	must(t, "Load", g.Load(), api.OK)
	mustHold(t, p, 1, 2, 5)
	mustAsked(t, s, 1, 2, 5)
	must(t, "Clear", p.Clear(), api.OK)
	mustHold(t, p)
}

// A fetch uses others that are loaded, and drops or forgets them; what is held hangs on the order of uses: whoever is fetched is used when it becomes loaded, behind all of these.
func TestUsesOthers(t *testing.T) {
	get := func(p *lazy.Pool, id api.Ref) { at(t, p, id).Get("a") }
	for _, x := range []struct {
		name   string
		within func(p *lazy.Pool)
		held   []api.Ref
		asked  []api.Ref
	}{
		{"nothing", func(p *lazy.Pool) {}, []api.Ref{2, 3, 9}, []api.Ref{9}},
		{"uses one", func(p *lazy.Pool) { get(p, 1) }, []api.Ref{3, 1, 9}, []api.Ref{9}},
		{"uses all", func(p *lazy.Pool) { get(p, 3); get(p, 2); get(p, 1) }, []api.Ref{2, 1, 9}, []api.Ref{9}},
		{"loads what is loaded", func(p *lazy.Pool) { at(t, p, 1).Load() }, []api.Ref{2, 3, 9}, []api.Ref{9}},
		{"asks who is busy", func(p *lazy.Pool) { get(p, 9); at(t, p, 9).Load() }, []api.Ref{2, 3, 9}, []api.Ref{9}},
		{"drops one", func(p *lazy.Pool) { must(t, "Drop", p.Drop(2), api.OK) }, []api.Ref{1, 3, 9}, []api.Ref{9}},
		{"forgets one", func(p *lazy.Pool) { must(t, "Forget", at(t, p, 3).Forget(), api.OK) }, []api.Ref{1, 2, 9}, []api.Ref{9}},
		{"drops all", func(p *lazy.Pool) { p.Drop(1); p.Drop(2); p.Drop(3) }, []api.Ref{9}, []api.Ref{9}},
		{"clears", func(p *lazy.Pool) { must(t, "Clear", p.Clear(), api.ErrBusy) }, []api.Ref{2, 3, 9}, []api.Ref{9}},
		{"loads a new one", func(p *lazy.Pool) { get(p, 4) }, []api.Ref{3, 4, 9}, []api.Ref{9, 4}},
		{"loads two new ones", func(p *lazy.Pool) { get(p, 4); at(t, p, 5).Load() }, []api.Ref{4, 5, 9}, []api.Ref{9, 4, 5}},
		{"loads as many as there is room for", func(p *lazy.Pool) { use(t, p, 4, 5, 6) }, []api.Ref{5, 6, 9}, []api.Ref{9, 4, 5, 6}},
		{"loads more than there is room for", func(p *lazy.Pool) { use(t, p, 4, 5, 6, 7, 4) }, []api.Ref{7, 4, 9}, []api.Ref{9, 4, 5, 6, 7, 4}},
		{"loads one anew", func(p *lazy.Pool) { p.Drop(2); get(p, 2) }, []api.Ref{3, 2, 9}, []api.Ref{9, 2}},
		{"loads and drops", func(p *lazy.Pool) { get(p, 4); p.Drop(4) }, []api.Ref{2, 3, 9}, []api.Ref{9, 4}},
	} {
		for _, q := range questions() {
			s := &shelf{}
			p := pool(t, 3, s.fetch)
			use(t, p, 1, 2, 3)
			s.asked = nil
			s.answers = func(id api.Ref) (*api.Record, api.Errno) {
				if id == 9 {
					before := p.Held()
					x.within(p)
					mustBeBusy(t, at(t, p, 9), 9, api.OK)
					if slices.Contains(before, 9) || slices.Contains(p.Held(), 9) {
						t.Error(x.name, "is held while it is fetched")
					}
				}
				return ordinary(id), api.OK
			}
			q.asks(at(t, p, 9))
			mustHold(t, p, x.held...)
			mustAsked(t, s, x.asked...)
			if t.Failed() {
				t.Fatal(x.name, q.name)
			}
		}
	}
}

// A fetch that did much and then fails: what it did stays, and whom it did it for is not loaded, and makes nobody go.
func TestUsesOthersAndFails(t *testing.T) {
	for _, f := range fails() {
		s := &shelf{}
		p := pool(t, 2, s.fetch)
		use(t, p, 1, 2)
		s.answers = func(id api.Ref) (*api.Record, api.Errno) {
			if id == 9 {
				use(t, p, 1, 3)
				return f.fetch(id)
			}
			return ordinary(id), api.OK
		}
		must(t, f.name, at(t, p, 9).Load(), f.why)
		mustHold(t, p, 1, 3)
		mustBe(t, at(t, p, 9), false, f.why)
		must(t, "Clear", p.Clear(), api.OK)
		mustHold(t, p)
	}
}

// Ghosts whose fetches ask one another in a ring: each is fetched once, and who is busy is told.
func TestRing(t *testing.T) {
	for n := api.Ref(1); n <= 6; n++ {
		for room := 1; room <= 7; room++ {
			s := &shelf{}
			var p *lazy.Pool
			busy := 0
			s.answers = func(id api.Ref) (*api.Record, api.Errno) {
				next := at(t, p, id%n+1)
				switch next.Load() {
				case api.ErrBusy:
					busy++
					for other := api.Ref(1); other <= n; other++ {
						mustBeBusy(t, at(t, p, other), other, api.OK)
						must(t, "Drop", p.Drop(other), api.ErrBusy)
					}
				case api.OK:
					mustTell(t, next, ordinary(id%n+1))
				}
				must(t, "Clear", p.Clear(), api.ErrBusy)
				return ordinary(id), api.OK
			}
			p = pool(t, room, s.fetch)
			must(t, "Load", at(t, p, 1).Load(), api.OK)
			var asked, held []api.Ref
			for id := api.Ref(1); id <= n; id++ {
				asked, held = append(asked, id), append([]api.Ref{id}, held...)
			}
			mustAsked(t, s, asked...)
			mustHold(t, p, held[max(0, len(held)-room):]...)
			must(t, "Clear", p.Clear(), api.OK)
			if busy != 1 {
				t.Error(n, room, busy)
			}
		}
	}
}

// Ghosts of their own may ask one another, too, and those of pools.
func TestGhostsAskOneAnother(t *testing.T) {
	s := &shelf{}
	var g, h *lazy.Ghost
	p := pool(t, 1, func(id api.Ref) (*api.Record, api.Errno) {
		mustBeBusy(t, g, 1, api.OK)
		mustBeBusy(t, h, 2, api.OK)
		return s.fetch(id)
	})
	g = ghost(t, 1, func(id api.Ref) (*api.Record, api.Errno) {
		must(t, "the other one", h.Load(), api.OK)
		mustTell(t, h, ordinary(2))
		must(t, "Clear", p.Clear(), api.OK)
		return s.fetch(id)
	})
	h = ghost(t, 2, func(id api.Ref) (*api.Record, api.Errno) {
		mustBeBusy(t, g, 1, api.OK)
		mustTell(t, at(t, p, 3), ordinary(3))
		must(t, "Clear", p.Clear(), api.OK) // its own ghosts are not busy
		use(t, p, 3)
		return s.fetch(id)
	})
	mustTell(t, g, ordinary(1))
	mustAsked(t, s, 3, 3, 2, 1)
	mustHold(t, p)
}

// Clear while one is busy changes nothing, however deep that is, and whatever panics between; and works again behind it.
func TestClearWhileBusy(t *testing.T) {
	s := &shelf{}
	p := pool(t, 9, s.fetch)
	use(t, p, 1, 2, 3)
	s.answers = func(id api.Ref) (*api.Record, api.Errno) {
		held := p.Held()
		must(t, "Clear", p.Clear(), api.ErrBusy)
		if !slices.Equal(held, p.Held()) {
			t.Error(held, p.Held())
		}
		if id > 10 {
			at(t, p, id-1).Load()
			must(t, "Clear", p.Clear(), api.ErrBusy)
		}
		switch id % 3 {
		case 0:
			panic(id)
		case 1:
			return nil, api.ErrFull
		}
		return ordinary(id), api.OK
	}
	must(t, "Load", at(t, p, 15).Load(), api.ErrPanic)
	mustHold(t, p, 1, 2, 3, 11, 14)
	must(t, "Clear", p.Clear(), api.OK)
	mustHold(t, p)
}

// nestedDeep is how many fetches run within one another.
const nestedDeep = 1 << 16

// As deep as things may be nested, fetches run within one another.
func TestNestedDeep(t *testing.T) {
	for _, room := range []int{1, api.MaxHeap} {
		asked := 0
		var p *lazy.Pool
		p = pool(t, room, func(id api.Ref) (*api.Record, api.Errno) {
			if asked++; id < nestedDeep {
				at(t, p, id+1).Load()
			} else {
				must(t, "Load", at(t, p, 1).Load(), api.ErrBusy)
				must(t, "Clear", p.Clear(), api.ErrBusy)
			}
			return ordinary(id), api.OK
		})
		must(t, "Load", at(t, p, 1).Load(), api.OK)
		if l := p.Held(); asked != nestedDeep || p.Fetched() != nestedDeep || len(l) != room || l[0] != api.Ref(room) || l[room-1] != 1 {
			t.Error(asked, p.Fetched(), len(l))
		}
	}
}
