package path_test

import (
	"math/rand"
	"slices"
	"sort"
	"testing"

	"tenon/api"
	"tenon/path"
	"tenon/sample"
	"tenon/value"
)

// The chapter's rules once more, plainly: on terms, each step by looking through all fields, the whole made anew. What the package answers is held against it.

func plain(v any) api.Term {
	t, e := value.Plain(v)
	if e != api.OK {
		panic(e)
	}
	return t
}

func hasFields(t api.Term) bool { return t.Kind == api.KDict || t.Kind == api.KRecord }

func entryAt(t api.Term, name string) int {
	return slices.IndexFunc(t.Fields, func(x api.Entry) bool { return x.Name == name })
}

// modelGo is what a step leads to, and where it is.
func modelGo(t api.Term, step api.Step) (api.Term, int, api.Errno) {
	switch {
	case step.At && t.Kind != api.KList, !step.At && !hasFields(t):
		return api.Term{}, 0, api.ErrInto
	case step.At && step.Index >= len(t.List):
		return api.Term{}, 0, api.ErrIndex
	case step.At:
		return t.List[step.Index], step.Index, api.OK
	}
	n := entryAt(t, step.Name)
	if n < 0 {
		return api.Term{}, 0, api.ErrNone
	}
	return t.Fields[n].Value, n, api.OK
}

func modelGet(t api.Term, way []api.Step) (api.Term, api.Errno) {
	for _, step := range way {
		next, _, e := modelGo(t, step)
		if e != api.OK {
			return api.Term{}, e
		}
		t = next
	}
	return t, api.OK
}

// modelEdit is the term with what is done to the part at the way's last step but one.
func modelEdit(t api.Term, way []api.Step, last func(api.Term, api.Step) (api.Term, api.Errno)) (api.Term, api.Errno) {
	if len(way) == 1 {
		return last(t, way[0])
	}
	next, n, e := modelGo(t, way[0])
	if e != api.OK {
		return api.Term{}, e
	}
	next, e = modelEdit(next, way[1:], last)
	return modelSet(t, n, next), e
}

func modelSet(t api.Term, n int, x api.Term) api.Term {
	t.List, t.Fields = slices.Clone(t.List), slices.Clone(t.Fields)
	if t.Kind == api.KList {
		t.List[n] = x
	} else {
		t.Fields[n].Value = x
	}
	return t
}

func modelPut(t api.Term, way []api.Step, x api.Term) (api.Term, api.Errno) {
	if len(way) == 0 {
		return x, api.OK
	}
	return modelEdit(t, way, func(t api.Term, last api.Step) (api.Term, api.Errno) {
		_, n, e := modelGo(t, last)
		switch {
		case e == api.OK:
			return modelSet(t, n, x), e
		case e == api.ErrIndex && last.Index == len(t.List):
			t.List = append(slices.Clone(t.List), x)
			return t, api.OK
		case e == api.ErrNone:
			t.Fields = append(slices.Clone(t.Fields), api.Entry{Name: last.Name, Value: x})
			sort.Slice(t.Fields, func(i, j int) bool { return t.Fields[i].Name < t.Fields[j].Name })
			return t, api.OK
		}
		return t, e
	})
}

func modelDelete(t api.Term, way []api.Step) (api.Term, api.Errno) {
	if len(way) == 0 {
		return t, api.ErrArg
	}
	return modelEdit(t, way, func(t api.Term, last api.Step) (api.Term, api.Errno) {
		_, n, e := modelGo(t, last)
		switch {
		case e != api.OK:
		case t.Kind == api.KList:
			t.List = append(slices.Clone(t.List[:n]), t.List[n+1:]...)
		default:
			t.Fields = append(slices.Clone(t.Fields[:n]), t.Fields[n+1:]...)
		}
		return t, e
	})
}

func modelApply(t api.Term, x api.Edit) (api.Term, api.Errno) {
	_, e := modelGet(t, x.Way)
	switch {
	case x.What < api.Set || x.What > api.Drop:
		return t, api.ErrArg
	case x.What != api.Set && len(x.Way) == 0:
		return t, api.ErrArg
	case x.What == api.Set && e != api.OK:
		return t, e
	case x.What == api.Add && e == api.OK:
		return t, api.ErrArg
	case x.What != api.Drop:
		return modelPut(t, x.Way, plain(x.Value))
	case e != api.OK:
		return t, e
	}
	last := x.Way[len(x.Way)-1]
	holder, _ := modelGet(t, x.Way[:len(x.Way)-1])
	if last.At && last.Index != len(holder.List)-1 {
		return t, api.ErrArg
	}
	return modelDelete(t, x.Way)
}

// modelDiff is the chapter's rules word by word.
func modelDiff(way []api.Step, a, b any) []api.Edit {
	var l []api.Edit
	to := func(step api.Step) []api.Step { return append(slices.Clone(way), step) }
	if value.Same(a, b) {
		return nil
	}
	ta, tb := plain(a), plain(b)
	switch {
	case ta.Kind == api.KList && tb.Kind == api.KList:
		x, y := a.(api.List), b.(api.List)
		for i := 0; i < len(x) && i < len(y); i++ {
			l = append(l, modelDiff(to(index(i)), x[i], y[i])...)
		}
		for i := len(x) - 1; i >= len(y); i-- {
			l = append(l, api.Edit{What: api.Drop, Way: to(index(i))})
		}
		for i := len(x); i < len(y); i++ {
			l = append(l, api.Edit{What: api.Add, Way: to(index(i)), Value: y[i]})
		}
	case hasFields(ta) && ta.Kind == tb.Kind && ta.Class == tb.Class && ta.Version == tb.Version:
		both := map[string]int{}
		for _, x := range append(slices.Clone(ta.Fields), tb.Fields...) {
			both[x.Name]++
		}
		var all []string
		for s := range both {
			all = append(all, s)
		}
		sort.Strings(all)
		for _, s := range all {
			x, ea := path.Get(a, steps(name(s)))
			y, eb := path.Get(b, steps(name(s)))
			switch {
			case ea == api.OK && eb == api.OK:
				l = append(l, modelDiff(to(name(s)), x, y)...)
			case ea == api.OK:
				l = append(l, api.Edit{What: api.Drop, Way: to(name(s))})
			default:
				l = append(l, api.Edit{What: api.Add, Way: to(name(s)), Value: y})
			}
		}
	default:
		l = append(l, api.Edit{What: api.Set, Way: way, Value: b})
	}
	return l
}

// agrees holds an answer against the model's.
func agrees(t *testing.T, what string, v any, e api.Errno, want api.Term, why api.Errno) {
	t.Helper()
	if why == api.OK {
		x, e := value.Of(want)
		if e == api.OK && !value.Same(v, x) {
			t.Fatalf("%s: %s, want %s", what, say(v), say(x))
		}
		why = e
	}
	if e != why || e != api.OK && v != nil {
		t.Fatalf("%s: error %d, want %d", what, e, why)
	}
}

// someWay is a way to a part of a value, or to where one of them would be, or beside them.
func someWay(r *rand.Rand, v any) []api.Step {
	all, _ := path.Find(v, func(any) bool { return true })
	way := all[r.Intn(len(all))]
	if part, _ := path.Get(v, way); r.Intn(2) == 0 {
		switch x := part.(type) {
		case api.List:
			way = append(way, index(r.Intn(len(x)+3)))
		case api.Dict, *api.Record:
			way = append(way, name([]string{"a", "a0", "b", "bb", "c", "d"}[r.Intn(6)]))
		}
	}
	for r.Intn(6) == 0 {
		way = append(way, []api.Step{name("a"), name("b"), index(0), index(1)}[r.Intn(4)])
	}
	return way
}

// P4.2 to P4.4, P4.9: any value, at any way.
func TestAgainstTheModel(t *testing.T) {
	r := rand.New(rand.NewSource(42))
	count := map[api.Errno]int{}
	for range 20000 {
		v, x := sample.Anyhow(r.Intn, 5), sample.Anyhow(r.Intn, 3)
		way := someWay(r, v)
		what := say(v) + " at " + sayWay(way)
		got, e := path.Get(v, way)
		want, why := modelGet(plain(v), way)
		agrees(t, "Get "+what, got, e, want, why)
		count[e]++
		got, e = path.Put(v, way, x)
		want, why = modelPut(plain(v), way, plain(x))
		agrees(t, "Put "+what, got, e, want, why)
		got, e = path.Delete(v, way)
		want, why = modelDelete(plain(v), way)
		agrees(t, "Delete "+what, got, e, want, why)
	}
	if len(count) != 4 || min(count[api.OK], count[api.ErrNone], count[api.ErrInto], count[api.ErrIndex]) < 300 {
		t.Error("the ways are of too few sorts:", count)
	}
}

func TestApplyAgainstTheModel(t *testing.T) {
	r := rand.New(rand.NewSource(9))
	count := map[api.Errno]int{}
	for range 20000 {
		v := sample.Anyhow(r.Intn, 5)
		whole := plain(v)
		why := api.OK
		var l []api.Edit
		for n := r.Intn(4); n >= 0 && why == api.OK; n-- {
			now, _ := value.Of(whole)
			x := api.Edit{What: 1 + r.Intn(3), Way: someWay(r, now), Value: sample.Anyhow(r.Intn, 3)}
			if r.Intn(50) == 0 {
				x.What = r.Intn(8) - 2
			}
			l = append(l, x)
			whole, why = modelApply(whole, x)
		}
		got, e := path.Apply(v, l)
		agrees(t, say(v)+" by edits", got, e, whole, why)
		count[e]++
	}
	if len(count) != 5 || min(count[api.OK], count[api.ErrArg], count[api.ErrNone], count[api.ErrInto], count[api.ErrIndex]) < 300 {
		t.Error("the edits are of too few sorts:", count)
	}
}

// P4.8, P4.12: any two values, of which the second one is often made of the first.
func TestDiffAgainstTheModel(t *testing.T) {
	r := rand.New(rand.NewSource(8))
	same, many := 0, 0
	for range 20000 {
		a, b := sample.Anyhow(r.Intn, 5), sample.Anyhow(r.Intn, 5)
		if r.Intn(4) > 0 {
			b = near(r, a)
		}
		l, e := path.Diff(a, b)
		if e != api.OK {
			t.Fatal(e)
		}
		if got, want := sayEdits(l), sayEdits(modelDiff(nil, a, b)); got != want {
			t.Fatalf("from %s to %s: %s, want %s", say(a), say(b), got, want)
		}
		if (len(l) == 0) != value.Same(a, b) {
			t.Fatal("no edits just between the same:", say(a), say(b))
		}
		if v, e := path.Apply(a, l); e != api.OK || !value.Same(v, b) {
			t.Fatal("not there:", say(a), say(b), e)
		}
		if len(l) == 0 {
			same++
		}
		if len(l) > 2 {
			many++
		}
	}
	if same < 100 || many < 100 {
		t.Error("the pairs are of too few sorts:", same, many)
	}
}

// near is a value that another one became by some changes.
func near(r *rand.Rand, v any) any {
	for range r.Intn(6) {
		way := someWay(r, v)
		next, e := path.Put(v, way, sample.Anyhow(r.Intn, 3))
		if r.Intn(3) == 0 {
			next, e = path.Delete(v, way)
		}
		if e == api.OK {
			v = next
		}
	}
	return v
}

// P4.10: what is put is got, and putting what is got changes nothing.
func TestPutAndGot(t *testing.T) {
	r := rand.New(rand.NewSource(10))
	for range 10000 {
		v, x := sample.Anyhow(r.Intn, 5), sample.Anything(r.Uint64, 3)
		way := someWay(r, v)
		if put, e := path.Put(v, way, x); e == api.OK {
			if got, e := path.Get(put, way); e != api.OK || !value.Same(got, x) {
				t.Fatal(say(v), sayWay(way), say(x), e)
			}
		}
		if got, e := path.Get(v, way); e == api.OK {
			if put, e := path.Put(v, way, got); e != api.OK || !value.Same(put, v) {
				t.Fatal(say(v), sayWay(way), e)
			}
		}
	}
}

// P4.10: two Puts at ways of which neither begins the other one come to the same in either order.
func TestTwoPuts(t *testing.T) {
	r := rand.New(rand.NewSource(11))
	held := 0
	for range 30000 {
		v := sample.Anyhow(r.Intn, 5)
		one, other := someWay(r, v), someWay(r, v)
		x, y := sample.Anyhow(r.Intn, 3), sample.Anyhow(r.Intn, 3)
		if n := min(len(one), len(other)); slices.Equal(one[:n], other[:n]) || longer(v, one) || longer(v, other) {
			continue
		}
		held++
		a, ea := twoPuts(v, one, x, other, y)
		b, eb := twoPuts(v, other, y, one, x)
		if (ea == api.OK) != (eb == api.OK) || ea == api.OK && !value.Same(a, b) {
			t.Fatal(say(v), sayWay(one), sayWay(other), ea, eb)
		}
	}
	if held < 1000 {
		t.Error("too few pairs:", held)
	}
}

func twoPuts(v any, one []api.Step, x any, other []api.Step, y any) (any, api.Errno) {
	v, e := path.Put(v, one, x)
	if e != api.OK {
		return nil, e
	}
	return path.Put(v, other, y)
}

// longer tells whether a Put there would make a list longer.
func longer(v any, way []api.Step) bool {
	_, e := path.Get(v, way)
	return e == api.ErrIndex
}
