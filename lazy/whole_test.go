package lazy_test

import (
	"fmt"
	"math/rand"
	"slices"
	"testing"

	"tenon/api"
	"tenon/convert"
	"tenon/evolve"
	"tenon/lazy"
	"tenon/object"
	"tenon/sample"
	"tenon/schema"
	"tenon/value"
	"tenon/wrap"
)

// P12.11: of pools that are used alike each holds the last ones of those that any with more room holds; also where ghosts are dropped, and all cleared.
func TestMoreRoomHoldsMore(t *testing.T) {
	r := rand.New(rand.NewSource(12))
	for round := range 40 {
		var pools []*lazy.Pool
		for room := 1; room <= 10; room++ {
			pools = append(pools, pool(t, room, (&shelf{}).fetch))
		}
		for range 300 {
			id, does, asks := api.Ref(1+r.Intn(14)), r.Intn(100), r.Intn(len(questions()))
			for _, p := range pools {
				switch {
				case does == 0:
					must(t, "Clear", p.Clear(), api.OK)
				case does < 8:
					at(t, p, id)
					must(t, "Drop", p.Drop(id), api.OK)
				default:
					questions()[asks].asks(at(t, p, id))
				}
			}
			for i, p := range pools[1:] {
				less, more := pools[i].Held(), p.Held()
				if len(less) > len(more) || !slices.Equal(less, more[len(more)-len(less):]) {
					t.Fatal(round, i+1, less, more)
				}
			}
		}
		for i, p := range pools[1:] {
			if p.Fetched() > pools[i].Fetched() {
				t.Error("more room fetches more:", i+2, p.Fetched(), pools[i].Fetched())
			}
		}
	}
}

// P12.9: which ones are held hangs on the uses and their order alone, not on what else is asked between, nor on which calls they were.
func TestHeldByUsesAlone(t *testing.T) {
	r := rand.New(rand.NewSource(9))
	for range 60 {
		room := 1 + r.Intn(6)
		plain, busy := pool(t, room, (&shelf{}).fetch), pool(t, room, (&shelf{}).fetch)
		var uses []api.Ref
		for range 100 {
			id := api.Ref(1 + r.Intn(9))
			uses = append(uses, id)
			use(t, plain, id)
			if g := at(t, busy, id); g.Loaded() || r.Intn(2) == 0 {
				questions()[r.Intn(len(questions()))].asks(g)
			} else {
				must(t, "Load", g.Load(), api.OK)
			}
			for range r.Intn(4) {
				g := at(t, busy, api.Ref(1+r.Intn(30)))
				g.ID()
				g.Last()
				if g.Loaded() {
					g.Load()
				}
				busy.Held()
				busy.Fetched()
			}
			want := lastOnes(uses, room)
			mustHold(t, plain, want...)
			mustHold(t, busy, want...)
		}
		if plain.Fetched() != busy.Fetched() {
			t.Error(plain.Fetched(), busy.Fetched())
		}
	}
}

// lastOnes is the last so many different ones of a list, in the order in which each stands there last.
func lastOnes(l []api.Ref, n int) []api.Ref {
	var last []api.Ref
	for i := len(l) - 1; i >= 0 && len(last) < n; i-- {
		if !slices.Contains(last, l[i]) {
			last = append([]api.Ref{l[i]}, last...)
		}
	}
	return last
}

// P12.10: as an object a ghost is the record that fetch answered; it is fetched once for all of it.
func TestGhostIsTheRecord(t *testing.T) {
	r := rand.New(rand.NewSource(10))
	for range 300 {
		want := sample.Record("p", 1+r.Intn(api.MaxVersion))
		var names []string
		for _, name := range []string{"a", "b", "c", "d"} {
			if names = append([]string{name}, names...); r.Intn(3) > 0 {
				want.Fields = append(want.Fields, sample.Field(name, sample.Anyhow(r.Intn, 4)))
			}
		}
		for _, m := range makers() {
			s := &shelf{answers: func(api.Ref) (*api.Record, api.Errno) { return want, api.OK }}
			g := m.makes(t, 7, s.fetch)
			if got, e := object.Record(g, names); e != api.OK || !value.Same(got, want) {
				t.Errorf("%s, %d, want %s", sample.Told(got), e, sample.Told(want))
			}
			if class, version, is, e := object.VersionOf(g); class != "p" || version != want.Version || !is || e != api.OK {
				t.Error(class, version, is, e)
			}
			mustAsked(t, s, 7)
		}
	}
}

// What object's calls tell of a ghost whose fetch fails.
func TestObjectOfFails(t *testing.T) {
	for _, m := range makers() {
		for _, f := range fails() {
			g := m.makes(t, 7, f.fetch)
			must(t, f.name, object.Load(g), f.why)
			if v, has, e := object.Ask(g, "a"); v != nil || has || e != f.why {
				t.Error(f.name, v, has, e, f.why)
			}
			if class, version, is, e := object.VersionOf(g); class != "" || version != 0 || !is || e != api.ErrName {
				t.Error(f.name, class, version, is, e)
			}
			if r, e := object.Record(g, nil); r != nil || e != api.ErrName {
				t.Error(f.name, sample.Told(r), e)
			}
		}
	}
}

// P3: through wrappers a ghost shows its abilities just if it should, and its methods come through.
func TestWrapped(t *testing.T) {
	for _, m := range makers() {
		for has := range 16 {
			s := &shelf{}
			g := m.makes(t, 7, s.fetch)
			x, e := wrap.Show(g, has)
			if got, f := object.Abilities(x); got != has&(api.IsVersioned+api.IsLazy) || e != api.OK || f != api.OK {
				t.Error(m.name, has, got, e, f)
			}
			mustAsked(t, s)
			if v, ok, e := object.Ask(x, "a"); v != any(api.Ref(7)) || !ok || e != api.OK {
				t.Error(v, ok, e)
			}
			mustAsked(t, s, 7)
			mustBe(t, g, true, api.OK)
			if wrap.Root(x) != api.Object(g) || wrap.Deep(g) != 0 {
				t.Error(wrap.Root(x), wrap.Deep(g))
			}
		}
		calls := ""
		g := m.makes(t, 7, (&shelf{}).fetch)
		x, e := wrap.Count(g, func(method string) { calls += " " + method })
		if r, f := object.Record(x, []string{"a", "d"}); e != api.OK || f != api.OK || sample.Told(r) != "c7/8{a: @7, d: nil}" {
			t.Error(sample.Told(r), e, f)
		}
		if calls != " Class Version Loaded Get Loaded Get" { // Class has loaded it
			t.Error(calls)
		}
	}
}

// P4: what is fetched in an old version is brought to a new one by the chain.
func TestFetchedIsConverted(t *testing.T) {
	l, _, e := schema.Parse(`class person 1 { name: text } class person 2 { age: int = 0 name: text } class person 3 { age: int = 0 called: text was name }`)
	var s schema.Schema
	var r convert.Registry
	for _, c := range l {
		must(t, c.Version, s.Define(c), api.OK)
	}
	for v := 1; v < 3; v++ {
		up, f := evolve.Auto(&s, "person", v, v+1)
		if _, g := r.Add(up); e != api.OK || f != api.OK || g != api.OK {
			t.Fatal(e, f, g)
		}
	}
	p := pool(t, 2, func(id api.Ref) (*api.Record, api.Errno) {
		return sample.Record("person", 1, sample.Field("name", fmt.Sprint("n", id))), api.OK
	})
	for id := api.Ref(1); id < 5; id++ {
		old, e := object.Record(at(t, p, id), []string{"name"})
		if e != api.OK {
			t.Fatal(e)
		}
		if now, e := r.Convert(old, 3); e != api.OK || sample.Told(now) != fmt.Sprintf("person/3{age: 0, called: %q}", fmt.Sprint("n", id)) {
			t.Error(sample.Told(now), e)
		}
	}
}
