package wrap_test

import (
	"slices"
	"testing"

	"tenon/api"
	"tenon/sample"
	"tenon/value"
)

// gives answers whatever it is told to.
type gives struct {
	sample.Blunt
	v     any
	has   bool
	keys  []any
	e     api.Errno
	asked []string
}

func (g *gives) Get(name string) (any, bool) {
	g.asked = append(g.asked, name)
	return g.v, g.has
}

func (g *gives) Give(to string) api.Errno {
	g.asked = append(g.asked, to)
	return g.e
}

func (g *gives) Keys() []any      { return g.keys }
func (g *gives) Load() api.Errno  { return g.e }
func (g *gives) Version() int     { return int(g.e) }
func (g *gives) Class() string    { return "\x00 no name" }
func (g *gives) Owner() string    { return "" }
func (g *gives) ID() (id api.Ref) { return id }

// P11.7: an answer comes out as it is: every value, what can't be, what stands beside a false, an error of the object's own; and what is handed in goes in as it is.
func TestAnswersComeThrough(t *testing.T) {
	values := sample.Rich()
	for _, w := range sample.Wrongs() {
		values = append(values, w.V)
	}
	g := &gives{}
	for i, x := range append(ofEachKind(t, g), mustGuard(t, mustAdd(t, mustShow(t, g, 0), mustCount(t, g, silent)))) {
		for j, v := range values {
			g.v, g.has, g.keys = v, j%2 == 0, []any{v, j, v}
			w, has := x.Get("a")
			if _, e := value.Check(v); e == api.OK && !value.Same(v, w) || value.Kind(v) != value.Kind(w) || has != g.has {
				t.Error(i, j, has)
			}
			if keys := x.(api.Indexed).Keys(); len(keys) != 3 || keys[1] != j || value.Kind(keys[2]) != value.Kind(v) {
				t.Error(i, j, len(keys))
			}
		}
		alien := new(int)
		g.v, g.keys = alien, nil
		if w, _ := x.Get("a"); w != any(alien) || x.(api.Indexed).Keys() != nil {
			t.Error(i, w)
		}
		g.keys = make([]any, api.MaxItems+1)
		if n := len(x.(api.Indexed).Keys()); n != api.MaxItems+1 {
			t.Error(i, n)
		}
		for _, e := range []api.Errno{api.OK, api.ErrArg, api.ErrPanic, api.ErrFull, -1, 12345} {
			g.e = e
			if x.(api.Owned).Give("bob") != e || x.(api.Lazy).Load() != e || x.(api.Versioned).Version() != int(e) {
				t.Error(i, e)
			}
		}
		if x.(api.Versioned).Class() != "\x00 no name" || x.(api.Owned).Owner() != "" || x.ID() != 0 {
			t.Error(i)
		}
		g.asked = nil
		names := append(sample.BadNames(), sample.GoodNames()...)
		for _, name := range names {
			x.Get(name)
			x.(api.Owned).Give(name + "!")
		}
		for j, name := range names {
			if !slices.Equal(g.asked[2*j:2*j+2], []string{name, name + "!"}) {
				t.Error(i, g.asked[2*j:2*j+2])
			}
		}
		if len(g.asked) != 2*len(names) {
			t.Error(i, len(g.asked))
		}
	}
}

// P11.7: what is inside may change: the wrapper keeps nothing of what it once answered.
func TestNothingIsKept(t *testing.T) {
	s := numbered(1)
	s.Fails, s.Loaded = api.OK, false
	for i, x := range ofEachKind(t, sample.Able(all, s)) {
		if e := x.(api.Owned).Give("bob"); e != api.OK || x.(api.Owned).Owner() != "bob" || s.Owner != "bob" {
			t.Error(i, e, s.Owner)
		}
		s.Owner, s.Version, s.ID, s.Class = "cid", 50+i, api.Ref(60+i), "other"
		if x.(api.Owned).Owner() != "cid" || x.(api.Versioned).Version() != 50+i || x.ID() != api.Ref(60+i) || x.(api.Versioned).Class() != "other" {
			t.Error(i)
		}
		if l := x.(api.Lazy); l.Loaded() || l.Load() != api.OK || !l.Loaded() {
			t.Error(i)
		}
		s.Loaded = false
	}
}
