package path_test

import (
	"slices"
	"testing"

	"tenon/api"
	"tenon/path"
	"tenon/sample"
	"tenon/value"
)

// twofoldText is sample.Twofold as text.
const twofoldText = `[#0102, [#0102, true], {b: #0102, l: [#0102, true]}, r/1{b: #0102, l: [#0102, true]}, #0102, [#0102, true], {b: #0102, l: [#0102, true]}, r/1{b: #0102, l: [#0102, true]}, "x"]`

// kept tells whether a value that was handed in still reads as it read, spare room and all.
func kept(t *testing.T, what string, v any) {
	t.Helper()
	if say(v) != twofoldText || !sample.RoomKept(v) {
		t.Errorf("%s changed what was handed in: %s", what, say(v))
	}
}

// apart sees that no two parts of an answer share memory; it writes over them.
func apart(t *testing.T, what string, parts ...any) {
	t.Helper()
	if at, ok := sample.Apart(parts...); !ok {
		t.Errorf("%s: part %d of the answer shares memory with one ahead", what, at)
	}
}

// P4.11: Get, Put, Delete leave alone what they are handed, and answer memory of their own.
func TestEditsTouchNothing(t *testing.T) {
	v := sample.Twofold()
	if say(v) != twofoldText || !sample.RoomKept(v) {
		t.Fatal("the test's own value:", say(v))
	}
	ways, e := path.Find(v, func(any) bool { return true })
	if e != api.OK {
		t.Fatal(e)
	}
	ways = append(ways, way("[9]"), way("[1][2]"), way("[2].a"), way("[2].c"), way("[3].z"), way("[3].l[2]"))
	for _, l := range ways {
		l = append(make([]api.Step, 0, len(l)+2), l...)
		room := l[len(l):cap(l)]
		room[0], room[1] = name("room"), index(7)
		before := slices.Clone(l)
		x := sample.Twofold()
		for what, call := range map[string]func() (any, api.Errno){
			"Get": func() (any, api.Errno) { return path.Get(v, l) }, "Put": func() (any, api.Errno) { return path.Put(v, l, x) }, "Put of its own part": func() (any, api.Errno) { return path.Put(v, l, v.(api.List)[5]) }, "Delete": func() (any, api.Errno) { return path.Delete(v, l) },
			"Apply, Set": func() (any, api.Errno) { return path.Apply(v, []api.Edit{{What: api.Set, Way: l, Value: x}}) }, "Apply, Add": func() (any, api.Errno) { return path.Apply(v, []api.Edit{{What: api.Add, Way: l, Value: x}}) }, "Apply, Drop": func() (any, api.Errno) { return path.Apply(v, []api.Edit{{What: api.Drop, Way: l, Value: x}}) },
			"Apply, twice one value": func() (any, api.Errno) {
				return path.Apply(v, []api.Edit{{What: api.Set, Way: way("[0]"), Value: x}, {What: api.Set, Way: way("[1]"), Value: x}})
			},
		} {
			got, _ := call()
			again, _ := call()
			kept(t, what, v)
			kept(t, what+", as the value put,", x)
			if list, ok := got.(api.List); ok {
				apart(t, what, list...)
			}
			sample.Spoil(got)
			kept(t, what+": the answer, when written into,", v)
			kept(t, what+": the answer, when written into, as the value put,", x)
			third, _ := call()
			if say(again) != say(third) {
				t.Errorf("%s: two answers share memory: %s, %s", what, say(again), say(third))
			}
		}
		if !slices.Equal(l, before) || room[0] != name("room") || room[1] != index(7) {
			t.Fatal("the way was changed:", l, room)
		}
	}
	if t.Failed() {
		t.FailNow()
	}
}

// P4.11: what is put may be written into behind the call.
func TestPutKeepsNothing(t *testing.T) {
	v, x := sample.Twofold(), sample.Twofold()
	put, e := path.Put(v, way("[1][2]"), x)
	applied, ea := path.Apply(v, []api.Edit{{What: api.Add, Way: way("[1][2]"), Value: x}, {What: api.Add, Way: way("[2].z"), Value: x}})
	if e != api.OK || ea != api.OK {
		t.Fatal(e, ea)
	}
	want, wantApplied := say(put), say(applied)
	sample.Spoil(x)
	sample.Spoil(v)
	if say(put) != want || say(applied) != wantApplied {
		t.Error("an answer shares memory with what was put")
	}
}

// P4.11: whoever writes into what is shown, or into what was handed in while it is gone through, changes nothing that is shown or answered.
func TestVisitorsTouchNothing(t *testing.T) {
	var want, got shown
	var parts []any
	v := sample.Twofold()
	path.Walk(v, func(way []api.Step, part any) int { want.add(way, part); parts = append(parts, part); return api.GoOn })
	kept(t, "Walk", v)
	apart(t, "Walk", parts...)
	kept(t, "what Walk showed", v)

	for _, alsoIn := range []any{nil, v} {
		got = nil
		e := path.Walk(v, func(way []api.Step, part any) int {
			got.add(way, part)
			sample.Spoil(part)
			sample.SpoilWay(way)
			sample.Spoil(alsoIn)
			return api.GoOn
		})
		if e != api.OK || !slices.Equal(got, want) {
			t.Error("Walk shows what was written into:", e, got)
		}
	}

	v = sample.Twofold()
	var ways [][]api.Step
	l, e := path.Find(v, func(part any) bool { sample.Spoil(part); return true })
	kept(t, "Find", v)
	path.Walk(v, func(way []api.Step, _ any) int { ways = append(ways, way); return api.GoOn })
	for i := range l {
		if e != api.OK || len(l) != len(ways) || !slices.Equal(l[i], ways[i]) {
			t.Fatal("Find:", e, len(l), i)
		}
		sample.SpoilWay(l[i]) // those behind must not hear of it
	}
	again, e := path.Find(v, func(any) bool { sample.Spoil(v); return true })
	if e != api.OK || !slices.EqualFunc(again, ways, slices.Equal[[]api.Step]) {
		t.Error("Find sees what is written between:", e)
	}
}

// P4.11: a changer may keep and write into what it was shown and what it answered.
func TestChangersTouchNothing(t *testing.T) {
	v := sample.Twofold()
	var keeps []any
	got, e := path.Map(v, func(way []api.Step, part any) (any, api.Errno) {
		answer, _ := value.Copy(part)
		for _, x := range keeps {
			sample.Spoil(x)
		}
		sample.SpoilWay(way)
		keeps = append(keeps, part, answer)
		return answer, api.OK
	})
	answers(t, "written into between", got, e, twofoldText, api.OK)
	kept(t, "Map", v)
	for _, x := range keeps {
		sample.Spoil(x)
	}
	answers(t, "written into behind", got, e, twofoldText, api.OK)
	apart(t, "Map", got.(api.List)...)
	kept(t, "what Map answered", v)

	one := api.List{[]byte{1}}
	got, e = path.Map(val("[1, [2, 3]]"), func(way []api.Step, part any) (any, api.Errno) {
		if value.Kind(part) == api.KInt {
			return one, api.OK
		}
		return part, api.OK
	})
	answers(t, "one answer for all", got, e, "[[#01], [[#01], [#01]]]", api.OK)
	within := got.(api.List)[1].(api.List)
	apart(t, "one answer for all", got.(api.List)[0], within[0], within[1])
	if say(one) != "[#01]" {
		t.Error("what was answered is shared:", say(one))
	}

	own := sample.Twofold()
	got, e = path.Map(own, func(way []api.Step, part any) (any, api.Errno) { sample.Spoil(own); return part, api.OK })
	answers(t, "what was handed in, written into", got, e, twofoldText, api.OK)
	own = sample.Twofold()
	got, e = path.Map(own, func(way []api.Step, part any) (any, api.Errno) { return own, api.OK })
	answers(t, "what was handed in, answered", got, e, twofoldText, api.OK)
	apart(t, "what was handed in, answered", got.(api.List)...)
	kept(t, "what was answered", own)
}

// P4.11: each way that is shown is memory of its own, however deep it leads.
func TestWaysShownAreApart(t *testing.T) {
	const deep = "[[[[[[1, 2], 3, 4], 5], {a: [{b: [[[6, 7], 8], 9]}, 10]}], 11], 12]"
	seen := func(spoils bool) (walked, mapped shown, kept [][]api.Step) {
		see := func(s *shown, way []api.Step, part any) {
			s.add(way, part)
			kept = append(kept, way)
			if spoils {
				sample.SpoilWay(way)
			}
		}
		e := path.Walk(val(deep), func(way []api.Step, part any) int { see(&walked, way, part); return api.GoOn })
		v, em := path.Map(val(deep), func(way []api.Step, part any) (any, api.Errno) { see(&mapped, way, part); return part, api.OK })
		answers(t, "Map", v, em, deep, api.OK)
		if e != api.OK {
			t.Error(e)
		}
		return walked, mapped, kept
	}
	walked, mapped, ways := seen(false)
	walkedSpoilt, mappedSpoilt, _ := seen(true)
	if !slices.Equal(walked, walkedSpoilt) || !slices.Equal(mapped, mappedSpoilt) {
		t.Error("what was written into a way is shown again")
	}
	for i, l := range ways {
		before := slices.Clone(ways[i+1:])
		for n := range before {
			before[n] = slices.Clone(before[n])
		}
		sample.SpoilWay(l)
		if !slices.EqualFunc(ways[i+1:], before, slices.Equal[[]api.Step]) {
			t.Fatal("two ways share memory:", i)
		}
	}
}

// P4.11: Diff leaves both alone, and its edits share nothing.
func TestDiffTouchesNothing(t *testing.T) {
	b := sample.Twofold()
	for _, a := range []any{nil, api.List{}, val("[nil, [nil], {a: 1, l: 2}, r/1{a: 1}, 4, [], {}, r/1{}, 8]"), val("[nil, [nil], {a: 1}, r/2{a: 1}]")} {
		before := say(a)
		l, e := path.Diff(a, b)
		if e != api.OK || len(l) == 0 {
			t.Fatal(e, l)
		}
		kept(t, "Diff", b)
		if say(a) != before {
			t.Error("Diff changed a:", say(a))
		}
		text := sayEdits(l)
		for i := range l {
			behind := sayEdits(l[i+1:])
			sample.Spoil(l[i].Value)
			sample.SpoilWay(l[i].Way)
			if sayEdits(l[i+1:]) != behind {
				t.Fatal("two edits share memory:", i)
			}
		}
		kept(t, "Diff's edits", b)
		if again, _ := path.Diff(a, b); sayEdits(again) != text || say(a) != before {
			t.Error("another answer:", sayEdits(again))
		}
	}
	v := val("[1]")
	l, _ := path.Diff(v, b)
	want := sayEdits(l)
	sample.Spoil(b)
	sample.Spoil(v)
	if sayEdits(l) != want {
		t.Error("the edits share memory with b")
	}
	edits := do("=[0] [#01]; +[1] {a: [#02]}")
	before := sayEdits(edits)
	got, e := path.Apply(val("[0]"), edits)
	sample.Spoil(got)
	if e != api.OK || sayEdits(edits) != before {
		t.Error("Apply's answer shares memory with the edits:", e)
	}
}

// P4.11: a way that was read from a text shares nothing with another one.
func TestWaysAreNew(t *testing.T) {
	a, b := way("a[1].b"), way("a[1].b")
	sample.SpoilWay(a)
	if !slices.Equal(b, steps(name("a"), index(1), name("b"))) {
		t.Error(b)
	}
}
