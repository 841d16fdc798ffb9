package lazy_test

import (
	"fmt"
	"slices"
	"testing"

	"tenon/api"
	"tenon/lazy"
	"tenon/sample"
	"tenon/value"
)

// fetcher is who fetches.
type fetcher = func(id api.Ref) (*api.Record, api.Errno)

// shelf is where records are fetched from: it writes down which ones were asked for, and answers by a function, if it has one, else an ordinary record.
type shelf struct {
	asked   []api.Ref
	answers fetcher
}

func (s *shelf) fetch(id api.Ref) (*api.Record, api.Errno) {
	s.asked = append(s.asked, id)
	if s.answers != nil {
		return s.answers(id)
	}
	return ordinary(id), api.OK
}

// ordinary is the record of an identity, unlike any other one's.
func ordinary(id api.Ref) *api.Record {
	return sample.Record(fmt.Sprint("c", uint64(id)), 1+int(id%api.MaxVersion), sample.Field("a", id), sample.Field("b", api.List{fmt.Sprint(id), nil}), sample.Field("d", nil))
}

// maker makes a ghost.
type maker struct {
	name  string
	makes func(t *testing.T, id api.Ref, fetch fetcher) *lazy.Ghost
}

// makers make a ghost of its own, and such of pools: what is said of ghosts holds for all of them.
func makers() []maker {
	pooled := func(room int) func(*testing.T, api.Ref, fetcher) *lazy.Ghost {
		return func(t *testing.T, id api.Ref, fetch fetcher) *lazy.Ghost {
			t.Helper()
			return at(t, pool(t, room, fetch), id)
		}
	}
	return []maker{{"of its own", ghost}, {"of a pool for 1", pooled(1)}, {"of a pool", pooled(api.MaxHeap)}}
}

// ghost is a ghost of its own, which must be made.
func ghost(t *testing.T, id api.Ref, fetch fetcher) *lazy.Ghost {
	t.Helper()
	g, e := lazy.New(id, fetch)
	if g == nil || e != api.OK {
		t.Fatal("New", id, e)
	}
	return g
}

// pool is a pool, which must be made.
func pool(t *testing.T, room int, fetch fetcher) *lazy.Pool {
	t.Helper()
	p, e := lazy.NewPool(room, fetch)
	if p == nil || e != api.OK {
		t.Fatal("NewPool", room, e)
	}
	return p
}

// at is a pool's ghost, which must be there.
func at(t *testing.T, p *lazy.Pool, id api.Ref) *lazy.Ghost {
	t.Helper()
	g, e := p.At(id)
	if g == nil || e != api.OK {
		t.Fatal("At", id, e)
	}
	return g
}

// use uses ghosts of a pool, one behind the other.
func use(t *testing.T, p *lazy.Pool, ids ...api.Ref) {
	t.Helper()
	for _, id := range ids {
		at(t, p, id).Class()
	}
}

func must(t *testing.T, name any, got, want api.Errno) {
	t.Helper()
	if got != want {
		t.Errorf("%v: %d, want %d", name, got, want)
	}
}

func mustGet(t *testing.T, g *lazy.Ghost, name string, want any, wantHas bool) {
	t.Helper()
	if v, has := g.Get(name); !value.Same(v, want) || has != wantHas {
		t.Errorf("Get(%q): %s, %v, want %s, %v", name, sample.Told(v), has, sample.Told(want), wantHas)
	}
}

// mustTell is of a ghost that tells just what a record has.
func mustTell(t *testing.T, g *lazy.Ghost, r *api.Record) {
	t.Helper()
	if class, version := g.Class(), g.Version(); class != r.Class || version != r.Version || !g.Loaded() {
		t.Errorf("%q, %d, %v, want %q, %d", class, version, g.Loaded(), r.Class, r.Version)
	}
	for _, f := range r.Fields {
		mustGet(t, g, f.Name, f.Value, true)
	}
	for _, name := range append(sample.BadNames(), "none", "zzz") {
		mustGet(t, g, name, nil, false)
	}
}

// mustBe is whether a ghost is loaded, and what the reason was the last time.
func mustBe(t *testing.T, g *lazy.Ghost, loaded bool, last api.Errno) {
	t.Helper()
	if g.Loaded() != loaded || g.Last() != last {
		t.Errorf("%d: loaded %v, last %d; want %v, %d", g.ID(), g.Loaded(), g.Last(), loaded, last)
	}
}

// mustAsked holds who was asked for, since the last time that it was held, against what is wanted.
func mustAsked(t *testing.T, s *shelf, want ...api.Ref) {
	t.Helper()
	if !slices.Equal(s.asked, want) {
		t.Errorf("fetched: %d, want %d", s.asked, want)
	}
	s.asked = nil
}

// mustHold holds which ghosts of a pool are loaded against what is wanted.
func mustHold(t *testing.T, p *lazy.Pool, want ...api.Ref) {
	t.Helper()
	if l := p.Held(); !slices.Equal(l, want) {
		t.Errorf("held: %d, want %d", l, want)
	}
}

// question is a call that needs the record; empty is what it answers where there is none.
type question struct {
	name  string
	asks  func(g *lazy.Ghost) string
	empty string
}

func questions() []question {
	get := func(name string) func(g *lazy.Ghost) string {
		return func(g *lazy.Ghost) string { v, has := g.Get(name); return fmt.Sprint(sample.Told(v), has) }
	}
	return []question{
		{"Get", get("a"), "nilfalse"}, {"Get of no field", get("none"), "nilfalse"}, {"Get of no name", get(""), "nilfalse"},
		{"Class", (*lazy.Ghost).Class, ""}, {"Version", func(g *lazy.Ghost) string { return fmt.Sprint(g.Version()) }, "0"},
	}
}
