package digest_test

import (
	"testing"

	"tenon/api"
	"tenon/digest"
	"tenon/sample"
	"tenon/value"
)

// kept sees that what was handed in still reads as it read, spare room and all.
func kept(t *testing.T, what string, v any) {
	t.Helper()
	if !value.Same(v, sample.Twofold()) || !sample.RoomKept(v) {
		t.Errorf("%s changed what was handed in", what)
	}
}

// apart sees that no two values share memory; it writes over them.
func apart(t *testing.T, what string, values ...any) {
	t.Helper()
	if at, ok := sample.Apart(values...); !ok {
		t.Errorf("%s: %d shares memory with one ahead", what, at)
	}
}

// Section 5.2: what is handed to a Map is neither changed nor kept: it may be written into, key and value, also where both are one.
func TestMapKeepsCopies(t *testing.T) {
	var m digest.Map
	key, v := sample.Twofold(), sample.Twofold()
	m.Put(key, v)
	m.Put(nil, v)
	m.Put(key, v)
	m.Get(key)
	kept(t, "Put, as a key,", key)
	kept(t, "Put, as a value,", v)
	sample.Spoil(key)
	sample.Spoil(v)
	both := sample.Twofold()
	m.Put(api.List{both, both}, both)
	m.Put(true, api.List{both, both})
	sample.Spoil(both)
	own := sample.Twofold()
	holds(t, "written into", &m, nil, own, true, api.List{own, own}, own, own, api.List{own, own}, own)
	gone := sample.Twofold()
	m.Delete(gone)
	kept(t, "Delete", gone)
	sample.Spoil(gone)
	holds(t, "deleted", &m, nil, own, true, api.List{own, own}, api.List{own, own}, own)
}

// Section 5.2: what Get, Put and Delete answer is nobody else's, and no two parts of it share memory.
func TestMapAnswersCopies(t *testing.T) {
	var m digest.Map
	own := sample.Twofold()
	m.Put("k", own)
	first, _ := m.Get("k")
	second, _ := m.Get("k")
	apart(t, "two answers of Get", first, second)
	third, _ := m.Get("k")
	apart(t, "one answer of Get", third.(api.List)...)
	holds(t, "Get's answers written into", &m, "k", own)
	old, _, _ := m.Put("k", own)
	again, _, _ := m.Put("k", own)
	apart(t, "answers of Put", append(old.(api.List), again.(api.List)...)...)
	holds(t, "Put's answers written into", &m, "k", own)
	last, _ := m.Delete("k")
	apart(t, "an answer of Delete", last.(api.List)...)
	kept(t, "all of them", own)
}

// Section 5.2: what Each shows may be written into, at once and later: later calls of the function, this Each and later ones do not hear of it.
func TestEachShowsCopies(t *testing.T) {
	own := sample.Twofold()
	var m digest.Map
	var want []any
	for i := range 3 {
		key := api.List{int64(i), sample.Twofold(), sample.Twofold()}
		m.Put(key, own)
		want = append(want, key, own)
	}
	var shown []any
	m.Each(func(key, v any) bool { shown = append(shown, key, v); return true })
	apart(t, "what is shown", shown...)
	holds(t, "written into later", &m, want...)
	n := 0
	e := m.Each(func(key, v any) bool {
		if !value.Same(key, want[n]) || !value.Same(v, own) {
			t.Error("shown as it was written into:", n)
		}
		apart(t, "a key and its value", append(append(api.List{}, key.(api.List)[1:]...), v.(api.List)...)...)
		sample.Spoil(key)
		n += 2
		return true
	})
	if e != api.OK || n != len(want) {
		t.Error(e, n)
	}
	holds(t, "written into at once", &m, want...)
	kept(t, "Each", own)
}

// Section 5.2: what Put, Get and Delete answer while an Each is under way is a copy, too: it may be written into, and the Each still shows what was kept.
func TestEachHearsOfNoAnswer(t *testing.T) {
	own := sample.Twofold()
	var m digest.Map
	for _, key := range []string{"a", "b", "c", "d"} {
		m.Put(key, own)
	}
	calls := 0
	e := m.Each(func(key, v any) bool {
		calls++
		if !value.Same(v, own) {
			t.Errorf("%v: shown as it was written into", key)
		}
		old, _, _ := m.Put("b", "new")
		sample.Spoil(old)
		old, _ = m.Get("c")
		sample.Spoil(old)
		old, _ = m.Delete("d")
		sample.Spoil(old)
		return true
	})
	if e != api.OK || calls != 4 {
		t.Error(e, calls)
	}
	holds(t, "later", &m, "a", own, "b", "new", "c", own)
}

// Memory: Group changes nothing that it is handed, and its answer is nobody else's.
func TestGroupSharesNothing(t *testing.T) {
	one := sample.Twofold()
	room := []any{one, api.List{one, one}, one, "spare"}
	l := room[:3]
	first, _ := digest.Group(l)
	second, e := digest.Group(l)
	kept(t, "Group", one)
	if e != api.OK || room[3] != "spare" || len(first) != 2 || len(second) != 2 {
		t.Fatal(e, room[3], first, second)
	}
	var all []any
	for _, x := range append(first, second...) {
		all = append(all, x.Value.(api.List)...)
	}
	apart(t, "answers of Group", all...)
	kept(t, "Group's answer, when written into,", one)
	third, _ := digest.Group(l)
	sample.Spoil(one)
	clear(l)
	own := sample.Twofold()
	if !value.Same(third[0].Value, own) || !value.Same(third[1].Value, api.List{own, own}) {
		t.Error("the answer shares memory with the list")
	}
}
