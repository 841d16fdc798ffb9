package object_test

import (
	"math/rand"
	"slices"
	"testing"

	"tenon/api"
	"tenon/names"
	"tenon/object"
	"tenon/sample"
	"tenon/value"
)

// model is what an object would have to answer, and which methods would be called: the chapter's words, one behind the other.
type model struct {
	sample.Script
	set    int
	throws map[string]bool
}

// called is that a method is called: whether it came to its end.
func (m *model) called(method, with string) bool {
	if with != "" {
		with = " " + with
	}
	m.Log = append(m.Log, method+with)
	return !m.throws[method]
}

func (m *model) load() api.Errno {
	if m.set&api.IsLazy == 0 {
		return api.OK
	}
	if !m.called("Loaded", "") {
		return api.ErrPanic
	}
	if m.Loaded {
		return api.OK
	}
	if !m.called("Load", "") {
		return api.ErrPanic
	}
	m.Loaded = m.Fails == api.OK
	return m.Fails
}

func (m *model) ask(name string) (any, bool, api.Errno) {
	if !names.Is(name) {
		return nil, false, api.ErrName
	}
	if e := m.load(); e != api.OK {
		return nil, false, e
	}
	if !m.called("Get", name) {
		return nil, false, api.ErrPanic
	}
	for _, f := range m.Fields {
		if f.Name == name {
			if _, e := value.Check(f.Value); e != api.OK {
				return nil, false, e
			}
			return f.Value, true, api.OK
		}
	}
	return nil, false, api.OK
}

func (m *model) version() api.Errno {
	switch {
	case !m.called("Class", "") || !m.called("Version", ""):
		return api.ErrPanic
	case !names.Is(m.Class):
		return api.ErrName
	case m.Version < 1 || m.Version > 1000:
		return api.ErrArg
	}
	return api.OK
}

func (m *model) record(list []string) (*api.Record, api.Errno) {
	for i, name := range list {
		if !names.Is(name) || slices.Contains(list[:i], name) {
			return nil, api.ErrName
		}
	}
	if m.set&api.IsVersioned == 0 {
		return nil, api.ErrLack
	}
	if e := m.version(); e != api.OK {
		return nil, e
	}
	r := sample.Record(m.Class, m.Version)
	for _, name := range slices.Sorted(slices.Values(list)) {
		v, has, e := m.ask(name)
		if e != api.OK {
			return nil, e
		}
		if has {
			r.Fields = append(r.Fields, sample.Field(name, v))
		}
	}
	return r, api.OK
}

// anyModel is a model by chance; some of its answers can't be, some of its methods panic.
func anyModel(r *rand.Rand) *model {
	m := &model{set: r.Intn(16), throws: map[string]bool{}}
	m.Class = []string{"p", "q", "person", "P", ""}[min(r.Intn(12), 4)]
	m.Version = []int{1, 2, 1000, 1001, 0}[min(r.Intn(12), 4)]
	if r.Intn(2) == 0 {
		m.Class, m.Version = "p", 1
	}
	m.Owner = []string{"ann", "bob", "", "A"}[r.Intn(4)]
	m.Loaded = r.Intn(2) == 0
	m.Fails = []api.Errno{api.OK, api.OK, api.OK, api.ErrFull, -3}[r.Intn(5)]
	for _, name := range []string{"a", "b", "c", "d"} {
		if r.Intn(3) > 0 {
			m.Fields = append(m.Fields, sample.Field(name, sample.Anyhow(r.Intn, 3)))
		}
	}
	if len(m.Fields) > 0 && r.Intn(4) == 0 {
		m.Fields[r.Intn(len(m.Fields))].Value = []any{7, sample.Nobody(), api.List{nil, func() {}}, sample.Record("a", 0)}[r.Intn(4)]
	}
	for range r.Intn(4) {
		m.Keys = append(m.Keys, sample.Anyhow(r.Intn, 3))
	}
	if r.Intn(4) == 0 {
		m.throws[[]string{"ID", "Get", "Class", "Version", "Keys", "Owner", "Give", "Loaded", "Load"}[r.Intn(9)]] = true
	}
	return m
}

// P10.6 to P10.14: many objects, asked many things, one behind the other, answer as the model does, by the same methods.
func TestModel(t *testing.T) {
	r := rand.New(rand.NewSource(10))
	for round := range 4000 {
		m := anyModel(r)
		thrown := sample.Thrown()[r.Intn(len(sample.Thrown()))]
		s := m.Script
		s.Meanwhile = func(method string) {
			if m.throws[method] {
				panic(thrown)
			}
		}
		o := sample.Able(m.set, &s)
		for range 5 {
			list := make([]string, r.Intn(5))
			for i := range list {
				list[i] = []string{"a", "b", "c", "d", "e", "f", "g", "h", "B", "a0"}[r.Intn(10)]
			}
			switch r.Intn(6) {
			case 0:
				want := m.load()
				mustLoad(t, o, want)
			case 1:
				v, has, want := m.ask("a")
				mustAsk(t, o, "a", v, has, want)
			case 2:
				m.model2(t, o)
			default:
				want, e := m.record(list)
				x, f := object.Record(o, list)
				if e != f || (x == nil) != (want == nil) || x != nil && !value.Same(x, want) {
					t.Errorf("%d: Record(%q): %s, %d; want %s, %d", round, list, sample.Told(x), f, sample.Told(want), e)
				}
			}
			mustLog(t, &s, m.Log...)
			m.Log = nil
		}
	}
}

// model2 asks what has to do with the other abilities, and gives the object away.
func (m *model) model2(t *testing.T, o api.Object) {
	t.Helper()
	if m.set&api.IsVersioned == 0 {
		mustVersion(t, o, "", 0, false, api.OK)
	} else if e := m.version(); e != api.OK {
		mustVersion(t, o, "", 0, true, e)
	} else {
		mustVersion(t, o, m.Class, m.Version, true, api.OK)
	}
	switch {
	case m.set&api.IsIndexed == 0:
		mustKeys(t, o, nil, false, api.OK)
	case !m.called("Keys", ""):
		mustKeys(t, o, nil, true, api.ErrPanic)
	default:
		mustKeys(t, o, m.Keys, true, api.OK)
	}
	switch {
	case m.set&api.IsOwned == 0:
		mustOwner(t, o, "", false, api.OK)
		mustGive(t, o, "eve", api.ErrLack)
		return
	case !m.called("Owner", ""):
		mustOwner(t, o, "", true, api.ErrPanic)
	case !names.Is(m.Owner):
		mustOwner(t, o, "", true, api.ErrName)
	default:
		mustOwner(t, o, m.Owner, true, api.OK)
	}
	if !m.called("Give", "eve") {
		mustGive(t, o, "eve", api.ErrPanic)
		return
	}
	mustGive(t, o, "eve", m.Fails)
	if m.Fails == api.OK {
		m.Owner = "eve"
	}
}
