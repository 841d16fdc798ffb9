package collect_test

import (
	"testing"

	"tenon/api"
	"tenon/collect"
)

// spoil writes over a list, spare room too.
func spoil(l []api.Ref) {
	l = l[:cap(l)]
	for i := range l {
		l[i] = 987654321
	}
}

// Rule 7: whoever writes into what Live and Sweep told changes nothing of the heap, nor of another answer.
func TestAnswersApart(t *testing.T) {
	h := stored(t, refs(1), refs(2), nil, refs(4), refs(3), nil)
	ahead := h.Image()
	first := collect.Live(h)
	second := collect.Live(h)
	spoil(first)
	mustBeLess(t, "Live", h, ahead, nil)
	if len(second) != 2 || second[0] != 1 || second[1] != 2 {
		t.Error(second)
	}
	gone, e := collect.Sweep(h)
	mustGo(t, "Sweep", e)
	spoil(gone)
	mustBeLess(t, "Sweep", h, ahead, refs(3, 4, 5))
	mustLive(t, h, 1, 2)
	mustTake(t, "Sweep again", h, sweep(h))
}

// Rule 7: nor into what End told, be that a cycle's own or another one's that goes on.
func TestEndApart(t *testing.T) {
	h := stored(t, refs(1), refs(2), nil, refs(4), refs(3))
	a, b := begin(t, h), begun(t, h, 1)
	mustStep(t, a, 2, true)
	ahead := h.Image()
	gone, e := a.End()
	mustGo(t, "End", e)
	spoil(gone)
	spoil(collect.Live(h))
	mustBeLess(t, "End", h, ahead, refs(3, 4))
	mustBeOver(t, h, a)
	put(t, h, 2, add(t, h))
	mustStep(t, b, 1, false)
	mustSpare(t, "the other one", h, b)
	mustLive(t, h, 1, 2, 5)
}

// Rule 7: whoever is told of what goes while he writes into what the same call answered ahead changes nothing of it.
func TestToldApart(t *testing.T) {
	h := stored(t, refs(1), nil, nil, nil)
	live := collect.Live(h)
	var told []api.Ref
	watch(t, h, func(id api.Ref) {
		spoil(live)
		live = collect.Live(h)
		told = append(told, id)
	})
	mustTake(t, "Sweep", h, sweep(h), 2, 3)
	if len(told) != 2 || told[0] != 2 || told[1] != 3 {
		t.Error(told)
	}
}
