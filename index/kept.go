package index

import (
	"slices"

	"tenon/api"
)

// refusal is why what an object comes to can't be kept; OK, if it can. What is kept of its identity by now makes room for it.
func (x *Index) refusal(t told) api.Errno {
	if x.def.Unique && slices.ContainsFunc(t.pairs, x.isAnothers) {
		return api.ErrTwice
	}
	old, had := x.kept[t.id]
	if t.of && !had && len(x.kept) >= api.MaxHeap || len(x.line)-len(old)+len(t.pairs) > api.MaxNodes {
		return api.ErrFull
	}
	return api.OK
}

// isAnothers tells whether another identity has a pair's key.
func (x *Index) isAnothers(p *pair) bool {
	return slices.ContainsFunc(x.who[p.text], func(id api.Ref) bool { return id != p.ID })
}

// keep keeps what an object comes to, of whose identity nothing is kept.
func (x *Index) keep(t told) {
	if x.kept == nil {
		x.who, x.kept = map[string][]api.Ref{}, map[api.Ref][]*pair{}
	}
	x.kept[t.id] = t.pairs
	for _, p := range t.pairs {
		at, _ := slices.BinarySearchFunc(x.line, p, inOrder)
		x.line = slices.Insert(x.line, at, p)
		x.who[p.text] = with(x.who[p.text], p.ID)
	}
}

// remove keeps nothing of an identity any more, and tells whether something was.
func (x *Index) remove(id api.Ref) bool {
	pairs, had := x.kept[id]
	for _, p := range pairs {
		at, _ := slices.BinarySearchFunc(x.line, p, inOrder)
		x.line = slices.Delete(x.line, at, at+1)
		if left := without(x.who[p.text], id); len(left) > 0 {
			x.who[p.text] = left
		} else {
			delete(x.who, p.text)
		}
	}
	delete(x.kept, id)
	return had
}

// with is another list that has an identity, too, which a rising list has not.
func with(l []api.Ref, id api.Ref) []api.Ref {
	at, _ := slices.BinarySearch(l, id)
	return slices.Concat(l[:at], []api.Ref{id}, l[at:])
}

// without is another list that has an identity no more, which a rising list has.
func without(l []api.Ref, id api.Ref) []api.Ref {
	at, _ := slices.BinarySearch(l, id)
	return slices.Concat(l[:at], l[at+1:])
}
