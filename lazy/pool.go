package lazy

import "tenon/api"

// Pool is ghosts by their identities, of which so many are loaded at most.
type Pool struct {
	room    int
	fetch   func(id api.Ref) (*api.Record, api.Errno)
	ghosts  map[api.Ref]*Ghost
	held    line // those that are loaded
	busy    int  // how many are busy
	fetched int
}

// NewPool is a pool without ghosts, with who fetches their records.
func NewPool(room int, fetch func(id api.Ref) (*api.Record, api.Errno)) (*Pool, api.Errno) {
	if room < 1 || room > api.MaxHeap || fetch == nil {
		return nil, api.ErrArg
	}
	return &Pool{room: room, fetch: fetch}, api.OK
}

// At is the ghost of an identity, always the same one.
func (p *Pool) At(id api.Ref) (*Ghost, api.Errno) {
	if id == 0 {
		return nil, api.ErrArg
	}
	if p.ghosts == nil {
		p.ghosts = map[api.Ref]*Ghost{}
	}
	g, known := p.ghosts[id]
	if !known {
		g = &Ghost{id: id, fetch: p.counted, pool: p}
		p.ghosts[id] = g
	}
	return g, api.OK
}

// Held is the identities of those that are loaded, the one that was used last behind all.
func (p *Pool) Held() []api.Ref {
	l := make([]api.Ref, 0, p.held.n)
	for g := p.held.oldest; g != nil; g = g.newer {
		l = append(l, g.id)
	}
	return l
}

// Fetched is how often something was fetched.
func (p *Pool) Fetched() int { return p.fetched }

// Drop has one forget its record.
func (p *Pool) Drop(id api.Ref) api.Errno {
	g, known := p.ghosts[id]
	if !known {
		return api.ErrArg
	}
	return g.Forget()
}

// Clear has all forget theirs.
func (p *Pool) Clear() api.Errno {
	if p.busy > 0 {
		return api.ErrBusy
	}
	for p.held.oldest != nil {
		p.held.oldest.unload()
	}
	return api.OK
}

// counted is fetch as the pool's ghosts have it: the pool knows of each call while it goes on, and that it has ended, also where it panics.
func (p *Pool) counted(id api.Ref) (*api.Record, api.Errno) {
	p.fetched++
	p.busy++
	defer func() { p.busy-- }()
	return p.fetch(id)
}

// hold takes in one that has become loaded, and makes room for it. It is the last in line, so that it never has to go itself.
func (p *Pool) hold(g *Ghost) {
	p.held.add(g)
	if p.held.n > p.room {
		p.held.oldest.unload()
	}
}

// use is that one that is loaded is used.
func (p *Pool) use(g *Ghost) {
	p.held.remove(g)
	p.held.add(g)
}
