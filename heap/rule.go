package heap

import "tenon/api"

func roomCanBe(room int) bool { return 1 <= room && room <= api.MaxHeap }

func empty(room int, next api.Ref) *Heap {
	return &Heap{room: room, next: next, records: map[api.Ref]kept{}, roots: map[string]api.Ref{}, namers: map[api.Ref]int{}}
}

func (h *Heap) has(id api.Ref) bool {
	_, there := h.records[id]
	return there
}

// takeRecords fills an empty heap: whether these can be its records. Whom they name is asked when all are there, since they may name one another.
func (h *Heap) takeRecords(l []api.Stored) bool {
	if len(l) > h.room {
		return false
	}
	ahead := api.Ref(0)
	for _, x := range l {
		if x.ID <= ahead || x.ID >= h.next {
			return false
		}
		k, e := keep(x.Record)
		if e != api.OK {
			return false
		}
		h.set(x.ID, k)
		ahead = x.ID
	}
	for id := range h.namers {
		if !h.has(id) {
			return false
		}
	}
	return true
}

// takeRoots gives a heap that has its records roots: whether these can be. SetRoot refuses all that can't, but 0, which it takes to say that there is none.
func (h *Heap) takeRoots(l []api.Root) bool {
	ahead := "" // every name is above it
	for _, x := range l {
		if x.Name <= ahead || x.ID == 0 || h.SetRoot(x.Name, x.ID) != api.OK {
			return false
		}
		ahead = x.Name
	}
	return true
}

// taken is a record as it is kept, if it can be, and names none that is not there.
func (h *Heap) taken(x *api.Record) (kept, api.Errno) {
	k, e := keep(x)
	if e != api.OK {
		return kept{}, e
	}
	for _, id := range k.names {
		if !h.has(id) {
			return kept{}, api.ErrDangling
		}
	}
	return k, api.OK
}

// set keeps a record under an identity, in the place of what was there.
func (h *Heap) set(id api.Ref, k kept) {
	h.unset(id)
	h.records[id] = k
	h.count(k.names, 1)
}

// unset lets go of what is under an identity, if there is anything.
func (h *Heap) unset(id api.Ref) {
	h.count(h.records[id].names, -1)
	delete(h.records, id)
}

// count is that by so many more records each of these is named.
func (h *Heap) count(named []api.Ref, more int) {
	for _, id := range named {
		h.namers[id] += more
		if h.namers[id] == 0 {
			delete(h.namers, id)
		}
	}
}

// mayGo tells whether records can be taken away together.
func (h *Heap) mayGo(ids []api.Ref) api.Errno {
	going, e := h.each(ids)
	if e != api.OK {
		return e
	}
	for _, id := range ids {
		for _, named := range h.records[id].names {
			if _, goes := going[named]; goes {
				going[named]++
			}
		}
	}
	for id, among := range going {
		if h.namers[id] > among {
			return api.ErrNamed
		}
	}
	for _, id := range h.roots {
		if _, goes := going[id]; goes {
			return api.ErrNamed
		}
	}
	return api.OK
}

// each is identities that must be there, each once: a count of 0 for every one of them.
func (h *Heap) each(ids []api.Ref) (map[api.Ref]int, api.Errno) {
	for _, id := range ids {
		if !h.has(id) {
			return nil, api.ErrIdentity
		}
	}
	counts := map[api.Ref]int{}
	for _, id := range ids {
		if _, twice := counts[id]; twice {
			return nil, api.ErrArg
		}
		counts[id] = 0
	}
	return counts, api.OK
}
