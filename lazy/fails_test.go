package lazy_test

import (
	"math"
	"runtime"
	"testing"

	"tenon/api"
	"tenon/lazy"
	"tenon/sample"
	"tenon/value"
)

// failing is a fetch that fails, and the reason.
type failing struct {
	name  string
	fetch fetcher
	why   api.Errno
}

// fails is fetches that fail in each way, the orders of reasons among them.
func fails() []failing {
	var l []failing
	for _, thrown := range sample.Thrown() {
		l = append(l, failing{"panic", func(api.Ref) (*api.Record, api.Errno) { panic(thrown) }, api.ErrPanic},
			failing{"panic behind an answer", func(id api.Ref) (r *api.Record, e api.Errno) {
				defer func() { panic(thrown) }()
				return ordinary(id), api.OK
			}, api.ErrPanic},
			failing{"panic behind an error", func(id api.Ref) (r *api.Record, e api.Errno) {
				r, e = ordinary(id), api.ErrFull
				panic(thrown)
			}, api.ErrPanic})
	}
	for _, e := range []api.Errno{api.ErrArg, api.ErrLong, api.ErrNil, api.ErrPanic, api.ErrBusy, api.ErrIdentity, 999, -1, math.MaxInt, math.MinInt} {
		for _, r := range []*api.Record{nil, ordinary(1), sample.Record("A", 1), sample.RecordRing().(*api.Record)} {
			l = append(l, failing{"error", func(api.Ref) (*api.Record, api.Errno) { return r, e }, e})
		}
	}
	l = append(l, failing{"nil", func(api.Ref) (*api.Record, api.Errno) { return nil, api.OK }, api.ErrNil})
	wrong := func(name string, r *api.Record, why api.Errno) {
		l = append(l, failing{name, func(api.Ref) (*api.Record, api.Errno) { return r, api.OK }, why})
	}
	wrong("zero", &api.Record{}, api.ErrName)
	wrong("alien within", sample.Record("a", 1, sample.Field("a", nil), sample.Field("b", 7)), api.ErrKind)
	wrong("nothing within", sample.Record("a", 1, sample.Field("a", sample.Nobody())), api.ErrNil)
	wrong("too deep", sample.Record("a", 1, sample.Field("a", sample.Within(api.MaxDepth, nil))), api.ErrLong)
	wrong("too great", sample.Record("a", 1, sample.Field("a", sample.Numbered(api.MaxNodes-1, nil))), api.ErrLong)
	for _, name := range sample.BadNames() {
		wrong("class "+name, sample.Record(name, 0, sample.Field("B", 7)), api.ErrName)
		wrong("field "+name, sample.Record("a", 1, sample.Field(name, 7)), api.ErrName)
	}
	for _, w := range sample.Wrongs() {
		if r, ok := w.V.(*api.Record); ok && r != nil {
			wrong(w.Name, r, w.Why)
		}
		within := sample.Record("a", 1, sample.Field("a", nil), sample.Field("b", w.V))
		_, why := value.Check(within)
		wrong(w.Name+" within", within, why)
	}
	return l
}

// P12.2, P12.3, P12.8: a fetch that fails is told by its reason; the ghost has nothing, and each further ask fetches anew, until it answers.
func TestFails(t *testing.T) {
	for _, m := range makers() {
		for _, f := range fails() {
			s := &shelf{answers: f.fetch}
			g := m.makes(t, 7, s.fetch)
			for range 2 {
				must(t, f.name, g.Load(), f.why)
				mustAsked(t, s, 7)
				mustBe(t, g, false, f.why)
			}
			for _, q := range questions() {
				if got := q.asks(g); got != q.empty {
					t.Error(m.name, f.name, q.name, got)
				}
				mustAsked(t, s, 7)
				mustBe(t, g, false, f.why)
			}
			must(t, "Forget", g.Forget(), api.OK)
			mustBe(t, g, false, f.why)
			s.answers = nil
			mustTell(t, g, ordinary(7))
			mustAsked(t, s, 7)
			mustBe(t, g, true, api.OK)
		}
	}
}

// P12.4, P12.8: of a record that was forgotten nothing is left, where fetching it anew fails.
func TestFailsLater(t *testing.T) {
	for _, m := range makers() {
		for _, f := range fails() {
			s := &shelf{}
			g := m.makes(t, 7, s.fetch)
			mustTell(t, g, ordinary(7))
			s.answers = f.fetch
			mustTell(t, g, ordinary(7))
			mustBe(t, g, true, api.OK)
			mustAsked(t, s, 7)
			must(t, "Forget", g.Forget(), api.OK)
			for _, q := range questions() {
				if got := q.asks(g); got != q.empty {
					t.Error(m.name, f.name, q.name, got)
				}
			}
			mustBe(t, g, false, f.why)
			mustAsked(t, s, 7, 7, 7, 7, 7)
		}
	}
}

// Example 2: what a panic is told as; and what the ghost answers whoever fetches it.
func TestSecondExample(t *testing.T) {
	g := ghost(t, 7, func(api.Ref) (*api.Record, api.Errno) { panic("no") })
	must(t, "Load", g.Load(), api.ErrPanic)
	mustGet(t, g, "a", nil, false)
	must(t, "Last", g.Last(), api.ErrPanic)
	asked := 0
	g, _ = lazy.New(7, func(id api.Ref) (*api.Record, api.Errno) {
		asked++
		mustGet(t, g, "a", nil, false)
		must(t, "Load", g.Load(), api.ErrBusy)
		return ordinary(id), api.OK
	})
	mustGet(t, g, "a", api.Ref(7), true)
	if asked != 1 {
		t.Error(asked)
	}
}

// P12.2: fetch may also end by ending the goroutine that it was called on; it runs no more then, so the ghost is not busy.
func TestGoroutineEnds(t *testing.T) {
	for _, m := range makers() {
		s := &shelf{answers: func(api.Ref) (*api.Record, api.Errno) { runtime.Goexit(); return nil, api.OK }}
		g := m.makes(t, 7, s.fetch)
		done := make(chan int)
		go func() {
			defer close(done)
			g.Load()
			t.Error(m.name, "goes on")
		}()
		<-done
		mustBe(t, g, false, api.OK)
		must(t, "Forget", g.Forget(), api.OK)
		s.answers = nil
		mustTell(t, g, ordinary(7))
		mustAsked(t, s, 7, 7)
	}
}

// What no call of the package made answers whatever it likes, but it answers.
func TestZeroEnds(t *testing.T) {
	var g lazy.Ghost
	for _, q := range questions() {
		q.asks(&g)
	}
	g.ID()
	g.Loaded()
	g.Load()
	g.Forget()
	g.Last()
	var p lazy.Pool
	p.Held()
	p.Fetched()
	p.Drop(1)
	p.Clear()
	at(t, &p, 1).Load()
	at(t, &p, 1).Get("a")
	p.Held()
	p.Drop(1)
	p.Clear()
}
