package digest

import (
	"slices"

	"tenon/api"
	"tenon/value"
)

// Map is values under values; the zero Map is empty.
type Map struct {
	kept map[string]any // under the keys' texts, from which the keys can be made again; what is kept is never written into
}

// pair is a key and what is kept under it.
type pair struct{ key, v any }

// Put puts a value under a key: the one that was there, and whether one was.
func (m *Map) Put(key, v any) (any, bool, api.Errno) {
	text, e := Key(key)
	if e != api.OK {
		return nil, false, e
	}
	v, e = value.Copy(v)
	if e != api.OK {
		return nil, false, e
	}
	old, had := m.at(text)
	if !had && len(m.kept) >= api.MaxItems {
		return nil, false, api.ErrFull
	}
	if m.kept == nil {
		m.kept = map[string]any{}
	}
	m.kept[text] = v
	return old, had, api.OK
}

// Get is what is kept under a key, and whether anything is.
func (m *Map) Get(key any) (any, bool) {
	text, e := Key(key)
	if e != api.OK {
		return nil, false
	}
	return m.at(text)
}

// Delete takes away what is kept under a key: that, and whether anything was.
func (m *Map) Delete(key any) (any, bool) {
	text, e := Key(key)
	if e != api.OK {
		return nil, false
	}
	old, had := m.at(text)
	delete(m.kept, text)
	return old, had
}

// Len is how many keys there are.
func (m *Map) Len() int { return len(m.kept) }

// Each goes through keys and values in the keys' order, as long as it is told to.
func (m *Map) Each(does func(key, v any) bool) (e api.Errno) {
	if does == nil {
		return api.ErrArg
	}
	pairs := m.pairs()
	e = api.ErrPanic // taken back when the last call has come to its end, so that it does not matter what is panicked with
	defer func() { recover() }()
	for _, x := range pairs {
		if !does(x.key, copied(x.v)) {
			break
		}
	}
	return api.OK
}

// at is a copy of what is kept under a key's text, also where it is kept no more from then on: an Each that is under way may still have to show it.
func (m *Map) at(text string) (any, bool) {
	v, had := m.kept[text]
	return copied(v), had
}

// pairs is what is kept now, in the keys' order. The keys are new ones and nobody else's; the values are those that are kept.
func (m *Map) pairs() []pair {
	l := make([]pair, 0, len(m.kept))
	for text, v := range m.kept {
		l = append(l, pair{valueOf(text), v})
	}
	slices.SortFunc(l, func(a, b pair) int { return order(a.key, b.key) })
	return l
}

// copied is of what a Map keeps, which was checked when it was put.
func copied(v any) any {
	c, _ := value.Copy(v)
	return c
}
