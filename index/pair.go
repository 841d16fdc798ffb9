package index

import (
	"cmp"
	"slices"
	"sort"

	"tenon/api"
	"tenon/digest"
	"tenon/object"
	"tenon/value"
)

// pair is a key and an identity that has it, and the text under which the key is looked up.
type pair struct {
	api.Found
	text string
}

// pairsOf is an identity's pairs with its keys, which can be: each once, in order.
func pairsOf(id api.Ref, keys []any) []*pair {
	pairs := make([]*pair, len(keys))
	for i, key := range keys {
		text, _ := digest.Key(key)
		pairs[i] = &pair{api.Found{Key: key, ID: id}, text}
	}
	slices.SortFunc(pairs, inOrder)
	return slices.CompactFunc(pairs, func(a, b *pair) bool { return a.text == b.text })
}

// inOrder goes by the keys, of one key by the identities.
func inOrder(a, b *pair) int {
	return cmp.Or(order(a.Key, b.Key), cmp.Compare(a.ID, b.ID))
}

// order is of values that can be, of which value.Order has no error to tell.
func order(a, b any) int {
	n, _ := value.Order(a, b)
	return n
}

// found is what is told of a pair: its key is a copy, which whoever is told may write into.
func (p *pair) found() api.Found {
	key, _ := value.Copy(p.Key)
	return api.Found{Key: key, ID: p.ID}
}

// bound is why a key can't bound what is shown; one that bounds nothing may be whatever it is.
func bound(key any, nothing bool) api.Errno {
	if nothing {
		return api.OK
	}
	_, e := value.Check(key)
	return e
}

// below is how many pairs have keys below one that can be, and so the place of the first that has not.
func (x *Index) below(key any) int {
	return sort.Search(len(x.line), func(i int) bool { return order(x.line[i].Key, key) >= 0 })
}

// upTo is how many pairs have keys that are not above one that can be.
func (x *Index) upTo(key any) int {
	return sort.Search(len(x.line), func(i int) bool { return order(x.line[i].Key, key) > 0 })
}

// show calls a function with each pair until it answers false, or panics.
func show(pairs []*pair, does func(f api.Found) bool) api.Errno {
	kind, _ := object.Try(func() {
		for _, p := range pairs {
			if !does(p.found()) {
				return
			}
		}
	})
	if kind != api.NoPanic {
		return api.ErrPanic
	}
	return api.OK
}
