package sample

import "tenon/api"

// Script is what an object that Able makes answers to its methods. What it answers is its own memory, not copies.
type Script struct {
	ID      api.Ref
	Fields  api.Dict
	Class   string
	Version int
	Keys    []any
	Owner   string
	Loaded  bool
	Fails   api.Errno // what Give and Load answer; with OK they do what they should

	Log       []string            // the methods that were called, with what they were handed
	Meanwhile func(method string) // called in each method, ahead of its answer, if there is one
}

// call is that a method is called.
func (s *Script) call(method, with string) {
	if with == "" {
		s.Log = append(s.Log, method)
	} else {
		s.Log = append(s.Log, method+" "+with)
	}
	if s.Meanwhile != nil {
		s.Meanwhile(method)
	}
}

// The parts of which Able makes objects: what every object has, and each ability.
type (
	plainPart     struct{ s *Script }
	versionedPart struct{ s *Script }
	indexedPart   struct{ s *Script }
	ownedPart     struct{ s *Script }
	lazyPart      struct{ s *Script }
)

func (p plainPart) ID() api.Ref {
	p.s.call("ID", "")
	return p.s.ID
}

func (p plainPart) Get(name string) (any, bool) {
	p.s.call("Get", name)
	for _, f := range p.s.Fields {
		if f.Name == name {
			return f.Value, true
		}
	}
	return nil, false
}

func (p versionedPart) Class() string {
	p.s.call("Class", "")
	return p.s.Class
}

func (p versionedPart) Version() int {
	p.s.call("Version", "")
	return p.s.Version
}

func (p indexedPart) Keys() []any {
	p.s.call("Keys", "")
	return p.s.Keys
}

func (p ownedPart) Owner() string {
	p.s.call("Owner", "")
	return p.s.Owner
}

func (p ownedPart) Give(to string) api.Errno {
	p.s.call("Give", to)
	if p.s.Fails == api.OK {
		p.s.Owner = to
	}
	return p.s.Fails
}

func (p lazyPart) Loaded() bool {
	p.s.call("Loaded", "")
	return p.s.Loaded
}

func (p lazyPart) Load() api.Errno {
	p.s.call("Load", "")
	p.s.Loaded = p.s.Fails == api.OK
	return p.s.Fails
}

// Able is an object that has just the abilities of those numbers, added up (from 0 to 15), and answers by a script.
func Able(set int, s *Script) api.Object {
	if set < api.IsLazy {
		return eager(set, plainPart{s}, versionedPart{s}, indexedPart{s}, ownedPart{s})
	}
	return lazy(set-api.IsLazy, plainPart{s}, versionedPart{s}, indexedPart{s}, ownedPart{s}, lazyPart{s})
}

func eager(set int, p plainPart, v versionedPart, i indexedPart, o ownedPart) api.Object {
	return []api.Object{
		p,
		struct {
			plainPart
			versionedPart
		}{p, v},
		struct {
			plainPart
			indexedPart
		}{p, i},
		struct {
			plainPart
			versionedPart
			indexedPart
		}{p, v, i},
		struct {
			plainPart
			ownedPart
		}{p, o},
		struct {
			plainPart
			versionedPart
			ownedPart
		}{p, v, o},
		struct {
			plainPart
			indexedPart
			ownedPart
		}{p, i, o},
		struct {
			plainPart
			versionedPart
			indexedPart
			ownedPart
		}{p, v, i, o},
	}[set]
}

func lazy(set int, p plainPart, v versionedPart, i indexedPart, o ownedPart, l lazyPart) api.Object {
	return []api.Object{
		struct {
			plainPart
			lazyPart
		}{p, l},
		struct {
			plainPart
			versionedPart
			lazyPart
		}{p, v, l},
		struct {
			plainPart
			indexedPart
			lazyPart
		}{p, i, l},
		struct {
			plainPart
			versionedPart
			indexedPart
			lazyPart
		}{p, v, i, l},
		struct {
			plainPart
			ownedPart
			lazyPart
		}{p, o, l},
		struct {
			plainPart
			versionedPart
			ownedPart
			lazyPart
		}{p, v, o, l},
		struct {
			plainPart
			indexedPart
			ownedPart
			lazyPart
		}{p, i, o, l},
		struct {
			plainPart
			versionedPart
			indexedPart
			ownedPart
			lazyPart
		}{p, v, i, o, l},
	}[set]
}
