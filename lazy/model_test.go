package lazy_test

import (
	"math/rand"
	"slices"
	"testing"

	"tenon/api"
	"tenon/lazy"
	"tenon/sample"
	"tenon/value"
)

// world is a pool, and beside it what the chapter says of it: what is loaded, by the order of uses, who is busy, why fetches failed.
type world struct {
	t       *testing.T
	r       *rand.Rand
	p       *lazy.Pool
	room    int
	known   map[api.Ref]*lazy.Ghost
	held    []api.Ref
	records map[api.Ref]*api.Record
	busy    []api.Ref
	last    map[api.Ref]api.Errno
	fetched int
	deepest int       // how many were busy at once
	due     []api.Ref // whom fetch must be called for next, the last one first
	answers []any     // what was handed to the pool, or out of it
}

func newWorld(t *testing.T, seed int64) *world {
	w := &world{t: t, r: rand.New(rand.NewSource(seed)), known: map[api.Ref]*lazy.Ghost{}, records: map[api.Ref]*api.Record{}, last: map[api.Ref]api.Errno{}}
	w.room = 1 + w.r.Intn(5)
	w.p = pool(t, w.room, w.fetch)
	return w
}

func (w *world) isBusy(id api.Ref) bool { return slices.Contains(w.busy, id) }
func (w *world) isHeld(id api.Ref) bool { return slices.Contains(w.held, id) }

// leave is that one is not loaded any more.
func (w *world) leave(id api.Ref) {
	w.held = slices.DeleteFunc(w.held, func(other api.Ref) bool { return other == id })
	delete(w.records, id)
}

// used is that one that is loaded is used.
func (w *world) used(id api.Ref) {
	w.held = append(slices.DeleteFunc(w.held, func(other api.Ref) bool { return other == id }), id)
}

// fetch is called by the pool, when it must and only then; meanwhile it does whatever it likes with the pool, before it answers, fails or panics.
func (w *world) fetch(id api.Ref) (*api.Record, api.Errno) {
	if len(w.due) == 0 || w.due[len(w.due)-1] != id {
		w.t.Errorf("fetch of %d; due: %d", id, w.due)
		return nil, api.ErrState
	}
	w.due = w.due[:len(w.due)-1]
	w.busy = append(w.busy, id)
	w.fetched++
	w.deepest = max(w.deepest, len(w.busy))
	w.look()
	if len(w.busy) < 6 {
		for range w.r.Intn(5) {
			w.step()
		}
	}
	w.busy = w.busy[:len(w.busy)-1]
	r, e, panics := w.answer()
	switch _, wrong := value.Check(r); {
	case panics:
		w.last[id] = api.ErrPanic
	case e != api.OK:
		w.last[id] = e
	default:
		w.last[id] = wrong
	}
	if w.last[id] == api.OK {
		w.take(id, r)
	}
	w.answers = append(w.answers, r)
	if panics {
		panic(sample.Thrown()[w.r.Intn(len(sample.Thrown()))])
	}
	return r, e
}

// take is that one becomes loaded.
func (w *world) take(id api.Ref, r *api.Record) {
	own, _ := value.Copy(r)
	w.records[id] = own.(*api.Record)
	if w.used(id); len(w.held) > w.room {
		w.leave(w.held[0])
	}
}

// answer is what a fetch answers, or that it panics.
func (w *world) answer() (*api.Record, api.Errno, bool) {
	r := sample.Record([]string{"p", "q"}[w.r.Intn(2)], 1+w.r.Intn(3))
	for _, name := range []string{"a", "b", "c"} {
		if w.r.Intn(2) == 0 {
			r.Fields = append(r.Fields, sample.Field(name, sample.Roomy(sample.Anyhow(w.r.Intn, 3))))
		}
	}
	switch w.r.Intn(14) {
	case 0:
		return nil, api.OK, true
	case 1:
		return r, api.Errno(w.r.Intn(200) - 50), w.r.Intn(3) == 0
	case 2:
		return nil, api.Errno(w.r.Intn(3)), false
	case 3:
		r.Version = 0
	case 4:
		r.Fields = append(r.Fields, sample.Field("d", []any{7, sample.Nobody(), sample.ListRing(), api.List{nil, func() {}}}[w.r.Intn(4)]))
	}
	return r, api.OK, false
}

// ghost is some ghost of the pool, and its identity.
func (w *world) ghost() (*lazy.Ghost, api.Ref) {
	w.t.Helper()
	id := api.Ref(1 + w.r.Intn(9))
	g := at(w.t, w.p, id)
	if old := w.known[id]; old != nil && old != g || g.ID() != id {
		w.t.Errorf("another ghost of %d", id)
	}
	w.known[id] = g
	return g, id
}

// fetching makes a call that loads a ghost, if it is neither loaded nor busy.
func (w *world) fetching(id api.Ref, call func()) {
	w.t.Helper()
	due := len(w.due)
	if !w.isBusy(id) && !w.isHeld(id) {
		w.due = append(w.due, id)
	}
	if call(); len(w.due) != due {
		w.t.Fatalf("%d is not fetched", id)
	}
}

// question asks a ghost something that needs its record.
func (w *world) question() {
	w.t.Helper()
	g, id := w.ghost()
	r := &api.Record{}
	var class string
	var version int
	var v any
	has := false
	name := []string{"a", "b", "c", "none", "", "A"}[w.r.Intn(6)]
	which := w.r.Intn(3)
	w.fetching(id, func() {
		switch which {
		case 0:
			class = g.Class()
		case 1:
			version = g.Version()
		case 2:
			v, has = g.Get(name)
		}
	})
	if w.isHeld(id) {
		w.used(id)
		r = w.records[id]
	}
	at := slices.IndexFunc(r.Fields, func(f api.Field) bool { return f.Name == name })
	switch {
	case which == 0 && class != r.Class, which == 1 && version != r.Version, which == 2 && has != (at >= 0), has && !value.Same(v, r.Fields[at].Value), !has && v != nil:
		w.t.Errorf("%d: %q, %d, %s, %v of %s", id, class, version, sample.Told(v), has, sample.Told(r))
	}
	w.answers = append(w.answers, v)
}

// load loads a ghost.
func (w *world) load() {
	w.t.Helper()
	g, id := w.ghost()
	want, is := api.ErrBusy, w.isHeld(id)
	var got api.Errno
	busy := w.isBusy(id)
	w.fetching(id, func() { got = g.Load() })
	switch {
	case is:
		want = api.OK
	case !busy:
		want = w.last[id]
	}
	must(w.t, "Load", got, want)
}

// drop forgets one, or drops it, which need not be there.
func (w *world) drop() {
	w.t.Helper()
	id, want := api.Ref(w.r.Intn(13)), api.OK
	switch {
	case w.known[id] == nil:
		want = api.ErrArg
	case w.isBusy(id):
		want = api.ErrBusy
	default:
		w.leave(id)
	}
	if g := w.known[id]; g != nil && w.r.Intn(2) == 0 {
		must(w.t, "Forget", g.Forget(), want)
	} else {
		must(w.t, "Drop", w.p.Drop(id), want)
	}
}

func (w *world) clear() {
	w.t.Helper()
	if len(w.busy) > 0 {
		must(w.t, "Clear", w.p.Clear(), api.ErrBusy)
		return
	}
	must(w.t, "Clear", w.p.Clear(), api.OK)
	for len(w.held) > 0 {
		w.leave(w.held[0])
	}
}

// step does something, and writes over all that was handed in or out.
func (w *world) step() {
	w.t.Helper()
	switch n := w.r.Intn(20); {
	case n < 12:
		w.question()
	case n < 16:
		w.load()
	case n < 19:
		w.drop()
	case w.r.Intn(2) == 0:
		w.clear()
	}
	for _, v := range w.answers {
		sample.Spoil(v)
	}
	w.answers = nil
	w.look()
}

// look holds all that can be told without fetching against the model.
func (w *world) look() {
	w.t.Helper()
	mustHold(w.t, w.p, w.held...)
	if len(w.held) > w.room || w.p.Fetched() != w.fetched {
		w.t.Errorf("held: %d, room: %d; fetched: %d, want %d", w.held, w.room, w.p.Fetched(), w.fetched)
	}
	for id, g := range w.known {
		mustBe(w.t, g, w.isHeld(id), w.last[id])
		if w.isBusy(id) {
			must(w.t, "Load", g.Load(), api.ErrBusy)
			must(w.t, "Forget", g.Forget(), api.ErrBusy)
		}
	}
}

// P12.2 to P12.10: whatever is done with a pool, also while it fetches, however deep, it is as the chapter says at each time.
func TestModel(t *testing.T) {
	fetched, deepest := 0, 0
	for seed := range int64(400) {
		w := newWorld(t, seed)
		for range 60 {
			if w.step(); len(w.busy) > 0 || len(w.due) > 0 {
				t.Error("busy:", w.busy, "due:", w.due)
			}
			if t.Failed() {
				t.Fatal("seed", seed)
			}
		}
		fetched += w.fetched
		deepest = max(deepest, w.deepest)
	}
	if fetched < 10000 || deepest < 6 {
		t.Error("too little was done:", fetched, deepest)
	}
}
