package check_test

import (
	"math/rand"
	"slices"
	"testing"

	"tenon/api"
	"tenon/check"
	"tenon/sample"
	"tenon/value"
)

// A plain model of the chapter's rules, each as it is said there, of values and types that can be.

// modelIs tells at which part of a value it shows that it is not of a type, as a way of places from the value in; none, if it is of it.
func modelIs(v any, t api.Type) (way []int, ok bool) {
	switch t.Kind {
	case api.TAny:
		return nil, true
	case api.TKind:
		return nil, value.Kind(v) == t.Of
	case api.TOnly:
		w, _ := value.Of(t.Only)
		return nil, value.Same(v, w)
	case api.TList:
		l, ok := v.(api.List)
		for i := range l {
			if way, fits := modelIs(l[i], t.Parts[0]); !fits {
				return append([]int{i}, way...), false
			}
		}
		return nil, ok
	case api.TDict:
		d, ok := v.(api.Dict)
		if !ok {
			return nil, false
		}
		return modelIsDict(d, t)
	case api.TUnion:
		for _, part := range t.Parts {
			if _, fits := modelIs(v, part); fits {
				return nil, true
			}
		}
	case api.TRecord:
		r, ok := v.(*api.Record)
		return nil, ok && r.Class == t.Class
	}
	return nil, false
}

func modelIsDict(d api.Dict, t api.Type) ([]int, bool) {
	names := slices.Clone(t.Names)
	for _, f := range d {
		names = append(names, f.Name)
	}
	slices.Sort(names)
	for _, name := range slices.Compact(names) {
		i := slices.Index(t.Names, name)
		j := slices.IndexFunc(d, func(f api.Field) bool { return f.Name == name })
		switch {
		case i < 0:
			if !t.Open {
				return nil, false
			}
		case j < 0:
			if !t.Lacks[i] {
				return nil, false
			}
		default:
			if way, ok := modelIs(d[j].Value, t.Parts[i]); !ok {
				return append([]int{j}, way...), false
			}
		}
	}
	return nil, true
}

// numberOf is the number of the part at the end of a way.
func numberOf(v any, way []int) int {
	if len(way) == 0 {
		return 0
	}
	l, _ := v.(api.List)
	if d, ok := v.(api.Dict); ok {
		for _, f := range d {
			l = append(l, f.Value)
		}
	}
	n := 1
	for _, ahead := range l[:way[0]] {
		size, _, _ := value.Size(ahead)
		n += size
	}
	return n + numberOf(l[way[0]], way[1:])
}

func modelSub(a, b api.Type) bool {
	switch {
	case b.Kind == api.TAny || a.Kind == api.TNone:
		return true
	case a.Kind == api.TUnion:
		for _, part := range a.Parts {
			if !modelSub(part, b) {
				return false
			}
		}
		return true
	case b.Kind == api.TUnion:
		for _, part := range b.Parts {
			if modelSub(a, part) {
				return true
			}
		}
		return false
	case b.Kind == api.TNone:
		return false
	case a.Kind == api.TOnly:
		v, _ := value.Of(a.Only)
		_, ok := modelIs(v, b)
		return ok
	case a.Kind == api.TAny:
		return false
	case a.Kind == api.TKind && b.Kind == api.TKind:
		return a.Of == b.Of
	case a.Kind == api.TList:
		return b.Kind == api.TKind && b.Of == api.KList || b.Kind == api.TList && modelSub(a.Parts[0], b.Parts[0])
	case a.Kind == api.TDict:
		return b.Kind == api.TKind && b.Of == api.KDict || b.Kind == api.TDict && modelSubDict(a, b)
	case a.Kind == api.TRecord:
		return b.Kind == api.TKind && b.Of == api.KRecord || b.Kind == api.TRecord && a.Class == b.Class
	}
	return false
}

func modelSubDict(a, b api.Type) bool {
	for j, name := range b.Names {
		i := slices.Index(a.Names, name)
		one := i >= 0 && modelSub(a.Parts[i], b.Parts[j]) && (!a.Lacks[i] || b.Lacks[j])
		none := i < 0 && b.Lacks[j] && !a.Open
		if !one && !none {
			return false
		}
	}
	if b.Open {
		return true
	}
	for _, name := range a.Names {
		if !slices.Contains(b.Names, name) {
			return false
		}
	}
	return !a.Open
}

func modelEither(a, b api.Type) api.Type {
	switch {
	case modelSub(a, b):
		return b
	case modelSub(b, a):
		return a
	}
	u := api.Type{Kind: api.TUnion}
	for _, x := range []api.Type{a, b} {
		if x.Kind == api.TUnion {
			u.Parts = append(u.Parts, x.Parts...)
		} else {
			u.Parts = append(u.Parts, x)
		}
	}
	return u
}

func modelTypeOf(v any) api.Type {
	switch x := v.(type) {
	case api.List:
		if len(x) == 0 {
			return sample.ListOf(sample.NoValue())
		}
		t := modelTypeOf(x[0])
		for _, v := range x[1:] {
			t = modelEither(t, modelTypeOf(v))
		}
		return sample.ListOf(t)
	case api.Dict:
		t := api.Type{Kind: api.TDict}
		for _, f := range x {
			t.Names, t.Lacks, t.Parts = append(t.Names, f.Name), append(t.Lacks, false), append(t.Parts, modelTypeOf(f.Value))
		}
		return t
	case *api.Record:
		return sample.OfClass(x.Class)
	}
	return sample.OfKind(value.Kind(v))
}

func modelNarrow(v any, t api.Type) (any, bool) {
	if _, ok := modelIs(v, t); ok {
		return v, true
	}
	switch t.Kind {
	case api.TList:
		l, ok := v.(api.List)
		out := api.List{}
		for _, v := range l {
			if w, ok := modelNarrow(v, t.Parts[0]); ok {
				out = append(out, w)
			}
		}
		return out, ok
	case api.TDict:
		if d, ok := v.(api.Dict); ok {
			return modelNarrowDict(d, t)
		}
	case api.TUnion:
		for _, part := range t.Parts {
			if w, ok := modelNarrow(v, part); ok {
				return w, true
			}
		}
	}
	return nil, false
}

func modelNarrowDict(d api.Dict, t api.Type) (any, bool) {
	out := api.Dict{}
	for _, f := range d {
		i := slices.Index(t.Names, f.Name)
		if i < 0 && t.Open {
			out = append(out, f)
		}
		if i < 0 {
			continue
		}
		if w, ok := modelNarrow(f.Value, t.Parts[i]); ok {
			out = append(out, sample.Field(f.Name, w))
		}
	}
	for i, name := range t.Names {
		if !t.Lacks[i] && !slices.ContainsFunc(out, func(f api.Field) bool { return f.Name == name }) {
			return nil, false
		}
	}
	return out, true
}

// likeModel holds what is told of a value and a type against the model.
func likeModel(t *testing.T, v any, x api.Type) (is, narrowed bool) {
	t.Helper()
	way, is := modelIs(v, x)
	mustBe(t, v, x, is, numberOf(v, way))
	if w, ok := modelNarrow(v, x); ok {
		mustNarrow(t, v, x, w)
		return is, true
	}
	mustLose(t, v, x)
	return is, false
}

// P7.1, P7.5: all small values and types of the pool.
func TestPoolLikeModel(t *testing.T) {
	for _, v := range values() {
		mustBeOf(t, v, modelTypeOf(v))
		for _, x := range pool() {
			likeModel(t, v, x)
		}
	}
}

// P7.2, P7.3: likewise all pairs of types.
func TestPairsLikeModel(t *testing.T) {
	for _, a := range pool() {
		for _, b := range pool() {
			mustSub(t, a, b, modelSub(a, b))
			mustJoin(t, a, b, modelEither(a, b))
		}
	}
}

// P7.1 to P7.5: whatever values and types come.
func TestAnyhowLikeModel(t *testing.T) {
	r := rand.New(rand.NewSource(7))
	n := map[string]int{}
	for range 10000 {
		v, w := great(r), great(r)
		a, b := near(r, v, 3), near(r, v, 3)
		mustBeOf(t, v, modelTypeOf(v))
		mustSub(t, a, b, modelSub(a, b))
		mustJoin(t, a, b, modelEither(a, b))
		is, narrowed := likeModel(t, v, a)
		likeModel(t, w, a)
		for what, so := range map[string]bool{"of": is, "not of": !is, "narrowed": narrowed && !is, "not narrowed": !narrowed, "plainly of": modelSub(a, b), "not plainly of": !modelSub(a, b)} {
			if so {
				n[what]++
			}
		}
	}
	for _, what := range []string{"of", "not of", "narrowed", "not narrowed", "plainly of", "not plainly of"} {
		if n[what] < 500 {
			t.Error(what, "came but", n[what], "times")
		}
	}
}

// Each call answers the same when it is made anew.
func TestAgain(t *testing.T) {
	v, a, b := val(`[{a: [1, "x"]}, {b: 2}]`), typ("[{a: [int]} | {a?: text, ...}]"), typ("[{a: any} | nil]")
	for range 3 {
		mustBe(t, v, a, false, 1)
		mustSub(t, a, b, false)
		mustJoin(t, a, b, sample.Union(a, b))
		mustBeOf(t, v, typ("[{a: [int | text]} | {b: int}]"))
		mustNarrow(t, v, b, val(`[{a: [1, "x"]}]`))
	}
	if !check.Valid(a) || check.Valid(api.Type{}) {
		t.Error("Valid")
	}
}
