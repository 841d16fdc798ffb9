package wrap

import (
	"tenon/api"
	"tenon/object"
)

// around is what a wrapper does around a call: it gets the method's name and the call, makes it at most once, and answers ErrPanic if it caught a panic of it.
type around func(method string, call func()) api.Errno

// straight is nothing but the call: a panic goes through.
func straight(_ string, call func()) api.Errno {
	call()
	return api.OK
}

// guarded catches whatever the call panics with.
func guarded(_ string, call func()) api.Errno {
	if kind, _ := object.Try(call); kind != api.NoPanic {
		return api.ErrPanic
	}
	return api.OK
}

// The parts of which wrappers are put together: what all have, and each ability by itself. Whom a method goes to is named, not embedded, so that no part has more methods than it should. What a call answers is set only once it has come to its end, so that it is zero where a panic was caught.
type (
	plain struct {
		to   api.Object
		does around
	}
	versioned struct {
		to   api.Versioned
		does around
	}
	indexed struct {
		to   api.Indexed
		does around
	}
	owned struct {
		to   api.Owned
		does around
	}
	lazy struct {
		to   api.Lazy
		does around
	}
)

// inside is the object that the wrapper was made around.
func (p plain) inside() api.Object { return p.to }

func (p plain) ID() (id api.Ref) {
	p.does("ID", func() { id = p.to.ID() })
	return id
}

func (p plain) Get(name string) (v any, has bool) {
	p.does("Get", func() { v, has = p.to.Get(name) })
	return v, has
}

func (p versioned) Class() (class string) {
	p.does("Class", func() { class = p.to.Class() })
	return class
}

func (p versioned) Version() (version int) {
	p.does("Version", func() { version = p.to.Version() })
	return version
}

func (p indexed) Keys() (keys []any) {
	p.does("Keys", func() { keys = p.to.Keys() })
	return keys
}

func (p owned) Owner() (owner string) {
	p.does("Owner", func() { owner = p.to.Owner() })
	return owner
}

func (p owned) Give(to string) (answer api.Errno) {
	if e := p.does("Give", func() { answer = p.to.Give(to) }); e != api.OK {
		return e
	}
	return answer
}

func (p lazy) Loaded() (loaded bool) {
	p.does("Loaded", func() { loaded = p.to.Loaded() })
	return loaded
}

func (p lazy) Load() (answer api.Errno) {
	if e := p.does("Load", func() { answer = p.to.Load() }); e != api.OK {
		return e
	}
	return answer
}
