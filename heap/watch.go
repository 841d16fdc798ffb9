package heap

import "tenon/api"

// watcher is who is told of changes.
type watcher struct {
	number int
	tells  func(id api.Ref)
}

// call tells a watcher of a change; if it panics, that is its own affair.
func (w watcher) call(id api.Ref) {
	defer func() { recover() }()
	w.tells(id)
}

// tell has all watchers told of changes, one change behind the other. However that ends, the heap can be changed again behind it.
func (h *Heap) tell(ids ...api.Ref) {
	h.telling = true
	defer func() { h.telling = false }()
	for _, id := range ids {
		for _, w := range h.watchers {
			w.call(id)
		}
	}
}
