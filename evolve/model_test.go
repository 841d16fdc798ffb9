package evolve_test

import (
	"fmt"
	"math/rand"
	"slices"
	"strings"
	"testing"

	"tenon/api"
	"tenon/check"
	"tenon/evolve"
	"tenon/sample"
	"tenon/schema"
	"tenon/value"
)

// A plain model of the chapter's rules, each as it is said there, of versions that are there.

// model is two versions of class p.
type model struct {
	from, to       int
	earlier, later []api.FieldOf
}

func modelOf(t *testing.T, s *schema.Schema, from, to int) model {
	t.Helper()
	earlier, e := s.Fields("p", from)
	later, f := s.Fields("p", to)
	if e != api.OK || f != api.OK {
		t.Fatal(e, f)
	}
	return model{from, to, earlier, later}
}

// find is the field of that name, nil if there is none.
func find(l []api.FieldOf, name string) *api.FieldOf {
	for i := range l {
		if l[i].Name == name {
			return &l[i]
		}
	}
	return nil
}

// comesFrom is the earlier field from which a later one comes, nil if it is none.
func (m model) comesFrom(f api.FieldOf) *api.FieldOf {
	if e := find(m.earlier, f.Name); e != nil {
		return e
	}
	if m.to == m.from+1 && f.Was != "" && find(m.later, f.Was) == nil {
		return find(m.earlier, f.Was)
	}
	if m.to == m.from-1 {
		for i, e := range m.earlier {
			if e.Was == f.Name && find(m.later, e.Name) == nil {
				return &m.earlier[i]
			}
		}
	}
	return nil
}

func sub(a, b api.Type) bool {
	ok, _ := check.Sub(a, b)
	return ok
}

func is(v any, t api.Type) bool {
	ok, _, _ := check.Is(v, t)
	return ok
}

func sameType(a, b api.Type) bool {
	s, _ := schema.PrintType(a)
	o, _ := schema.PrintType(b)
	return s == o
}

// rest is a default.
func rest(f api.FieldOf) any {
	v, _ := value.Of(f.Default)
	return v
}

func (m model) changes() []api.Evolution {
	var l []api.Evolution
	used := map[string]bool{}
	for _, f := range m.later {
		e := m.comesFrom(f)
		if e == nil {
			l = append(l, api.Evolution{Name: f.Name, What: api.FieldNew})
			continue
		}
		used[e.Name] = true
		what := 0
		if e.Name != f.Name {
			what |= api.FieldNamed
		}
		if !sameType(e.Type, f.Type) && sub(e.Type, f.Type) {
			what |= api.FieldWider
		}
		if !sameType(e.Type, f.Type) && !sub(e.Type, f.Type) {
			what |= api.FieldOther
		}
		if e.Has != f.Has || e.Has && f.Has && !value.Same(rest(*e), rest(f)) {
			what |= api.FieldDefault
		}
		if what != 0 {
			l = append(l, api.Evolution{Name: f.Name, Was: e.Name, What: what})
		}
	}
	for _, e := range m.earlier {
		if !used[e.Name] {
			l = append(l, api.Evolution{Name: e.Name, Was: e.Name, What: api.FieldGone})
		}
	}
	return l
}

func (m model) needs() []string {
	var l []string
	for _, f := range m.later {
		e := m.comesFrom(f)
		if e == nil && !f.Has || e != nil && !sub(e.Type, f.Type) && !sub(f.Type, e.Type) && !f.Has {
			l = append(l, f.Name)
		}
	}
	return l
}

func (m model) abilities() string {
	out := ""
	for _, f := range m.later {
		if e := m.comesFrom(f); e != nil && !f.Has && !sub(e.Type, f.Type) {
			out = "partial "
		}
	}
	gone := slices.ContainsFunc(m.changes(), func(x api.Evolution) bool { return x.What == api.FieldGone })
	if !gone && len(m.turned().needs()) == 0 {
		out += "reversible"
	}
	return strings.TrimSpace(out)
}

func (m model) turned() model { return model{m.to, m.from, m.later, m.earlier} }

func (m model) convert(fields api.Dict) (api.Dict, api.Errno) {
	if _, e := value.Check(fields); e != api.OK {
		return nil, e
	}
	held := map[string]any{}
	for _, f := range fields {
		held[f.Name] = f.Value
	}
	for _, f := range m.earlier {
		if _, ok := held[f.Name]; !ok {
			return nil, api.ErrFields
		}
	}
	if len(held) != len(m.earlier) {
		return nil, api.ErrFields
	}
	d := api.Dict{}
	for _, f := range m.later {
		e := m.comesFrom(f)
		switch {
		case e != nil && is(held[e.Name], f.Type):
			d = append(d, sample.Field(f.Name, held[e.Name]))
		case f.Has:
			d = append(d, sample.Field(f.Name, rest(f)))
		default:
			return nil, api.ErrMisfit
		}
	}
	_, e := value.Check(d)
	return d, e
}

func modelConforms(s *schema.Schema, r *api.Record) (string, api.Errno) {
	fields, _ := s.Fields(r.Class, r.Version)
	var names []string
	for _, f := range fields {
		names = append(names, f.Name)
	}
	for _, f := range r.Fields {
		names = append(names, f.Name)
	}
	slices.Sort(names)
	for _, name := range slices.Compact(names) {
		f := find(fields, name)
		at := slices.IndexFunc(r.Fields, func(x api.Field) bool { return x.Name == name })
		switch {
		case f == nil || at < 0:
			return name, api.ErrFields
		case !is(r.Fields[at].Value, f.Type):
			return name, api.ErrMisfit
		}
	}
	return "", api.OK
}

// What comes by chance: few names, types that are often of one another, defaults that mostly are of their types.

// chanceTypes is types by their texts, some of them twice, so that they come more often.
var chanceTypes = []string{"int", "int", "int | nil", "int | nil", "any", "any", "none", "text", "is 1", "nil", "[int]", "list", "int | text", "text | int", "[is 1 | nil] | int"}

// chanceValues is values by their texts.
var chanceValues = []string{"1", "1", "2", "nil", `"a"`, "[]", "[1]", "[nil, 1]", `["a"]`, "0x1p+00", "{}", "q/1{}"}

func chance[T any](r *rand.Rand, l []T) T { return l[r.Intn(len(l))] }

// anyValueOf is a value that mostly is of the type, if there is one by chance.
func anyValueOf(r *rand.Rand, t api.Type) any {
	v := val(chance(r, chanceValues))
	for range 30 {
		if is(v, t) || r.Intn(30) == 0 {
			break
		}
		v = val(chance(r, chanceValues))
	}
	return v
}

// anyField is a field of that name; ahead is those of the version ahead, of which it may have much.
func anyField(r *rand.Rand, name string, ahead []api.FieldOf) api.FieldOf {
	f := api.FieldOf{Name: name, Type: typ(chance(r, chanceTypes))}
	if len(ahead) > 0 && r.Intn(3) > 0 {
		old := chance(r, ahead)
		if own := find(ahead, name); own != nil {
			old = *own
		}
		f.Type, f.Has, f.Default = old.Type, old.Has, old.Default
		if r.Intn(2) == 0 {
			f.Was = old.Name
		}
		if r.Intn(3) == 0 {
			f.Type = sample.Union(f.Type, typ(chance(r, chanceTypes)))
		}
	}
	if r.Intn(4) == 0 {
		f = sample.With(f, anyValueOf(r, f.Type))
	}
	if r.Intn(6) == 0 {
		f.Was = chance(r, []string{"a", "b", "c", "m", "x"})
	}
	return f
}

// anySchema is class q in some versions, and class p in some, whose parent q may be.
func anySchema(r *rand.Rand) *schema.Schema {
	s := new(schema.Schema)
	few := 3 + r.Intn(3)
	for _, class := range []string{"q", "p"} {
		names := map[string][]string{"q": {"b", "m", "n"}, "p": {"a", "b", "c", "d", "e"}}[class]
		for range 8 {
			c := api.Class{Name: class, Version: s.Latest(class) + 1, Abstract: r.Intn(10) == 0}
			if class == "p" && r.Intn(3) == 0 {
				c.Parent, c.ParentVersion = "q", 1+r.Intn(s.Latest("q"))
			}
			ahead, _ := s.Fields(class, s.Latest(class))
			for _, name := range names {
				if r.Intn(few) < 2 {
					c.Fields = append(c.Fields, anyField(r, name, ahead))
				}
			}
			s.Define(c) // it may be refused: a parent has a field of that name
			if s.Latest(class) == 4 {
				break
			}
		}
	}
	return s
}

// anyFieldsOf is fields that mostly conform to a version.
func anyFieldsOf(r *rand.Rand, fields []api.FieldOf) api.Dict {
	d := api.Dict{}
	for _, f := range fields {
		d = append(d, sample.Field(f.Name, anyValueOf(r, f.Type)))
	}
	if len(d) > 0 && r.Intn(20) == 0 {
		at := r.Intn(len(d))
		d = slices.Delete(d, at, at+1)
	}
	if r.Intn(20) == 0 {
		d = append(d, sample.Field(chance(r, []string{"x", "z"}), nil))
	}
	return d
}

// eachWay shows every two versions of class p in schemas that come by chance.
func eachWay(t *testing.T, schemas int, seed int64, show func(r *rand.Rand, s *schema.Schema, from, to int)) {
	t.Helper()
	r := rand.New(rand.NewSource(seed))
	for range schemas {
		s := anySchema(r)
		for from := 1; from <= s.Latest("p"); from++ {
			for to := 1; to <= s.Latest("p"); to++ {
				if from != to {
					show(r, s, from, to)
				}
				if t.Failed() {
					t.Fatalf("%s%d to %d", classesOf(s, "q", "p"), from, to)
				}
			}
		}
	}
}

// count sees that each of those things came often enough.
func count(t *testing.T, n map[string]int, least int, things ...string) {
	t.Helper()
	for _, x := range things {
		if n[x] < least {
			t.Errorf("%q came but %d times", x, n[x])
		}
	}
}

// P8.3, P8.4, P8.5: Changes, Needs, and what Auto answers, like the model.
func TestStepsLikeModel(t *testing.T) {
	n := map[string]int{}
	eachWay(t, 1500, 1, func(r *rand.Rand, s *schema.Schema, from, to int) {
		m := modelOf(t, s, from, to)
		l, e := evolve.Changes(s, "p", from, to)
		if !slices.Equal(l, m.changes()) || e != api.OK {
			t.Errorf("Changes: %s, %d, want %s", said(l), e, said(m.changes()))
		}
		for _, x := range l {
			n[fmt.Sprint(x.What)]++
		}
		needs, e := evolve.Needs(s, "p", from, to)
		if !slices.Equal(needs, m.needs()) || e != api.OK {
			t.Errorf("Needs: %s, %d, want %s", needs, e, m.needs())
		}
		one, _ := s.Class("p", from)
		two, _ := s.Class("p", to)
		want := api.OK
		switch {
		case len(m.needs()) > 0:
			want = api.ErrNeeds
		case one.Abstract || two.Abstract:
			want = api.ErrAbstract
		}
		c, e := evolve.Auto(s, "p", from, to)
		n[fmt.Sprint("auto ", e)]++
		if e != want || (c != nil) != (want == api.OK) {
			t.Errorf("Auto: %v, %d, want %d", c, e, want)
		}
		if c != nil {
			mustHave(t, auto(t, s, from, to), m.abilities())
			n[m.abilities()]++
		}
	})
	count(t, n, 100, "", "partial", "reversible", "partial reversible", fmt.Sprint("auto ", api.OK), fmt.Sprint("auto ", api.ErrNeeds), fmt.Sprint("auto ", api.ErrAbstract), "1", "2", "4", "8", "12", "16", "20", "32", "36", "40", "44", "48", "52")
}

// P8.5: Convert, Takes and Back, like the model.
func TestConvertersLikeModel(t *testing.T) {
	n := map[string]int{}
	eachWay(t, 800, 2, func(r *rand.Rand, s *schema.Schema, from, to int) {
		c, e := evolve.Auto(s, "p", from, to)
		if e != api.OK {
			return
		}
		m := modelOf(t, s, from, to)
		for range 5 {
			d := anyFieldsOf(r, m.earlier)
			want, why := m.convert(d)
			n[fmt.Sprint(why)]++
			if why == api.OK {
				mustConvert(t, c, d, want)
			} else {
				mustRefuse(t, c, d, why)
			}
			b, ok := c.(api.Reversible)
			if !ok {
				continue
			}
			d = anyFieldsOf(r, m.later)
			want, why = m.turned().convert(d)
			n[fmt.Sprint("back ", why)]++
			if got, e := b.Back(d); !value.Same(got, want) || e != why {
				t.Errorf("Back(%s): %s, %d, want %s, %d", told(d), told(got), e, told(want), why)
			}
		}
	})
	count(t, n, 100, fmt.Sprint(api.OK), fmt.Sprint(api.ErrFields), fmt.Sprint(api.ErrMisfit), fmt.Sprint("back ", api.OK), fmt.Sprint("back ", api.ErrFields), fmt.Sprint("back ", api.ErrMisfit))
}

// P8.2: Conforms, like the model.
func TestConformsLikeModel(t *testing.T) {
	n := map[string]int{}
	r := rand.New(rand.NewSource(3))
	for range 1500 {
		s := anySchema(r)
		for version := 1; version <= s.Latest("p"); version++ {
			fields, _ := s.Fields("p", version)
			record := sample.Record("p", version, anyFieldsOf(r, fields)...)
			if c, _ := s.Class("p", version); c.Abstract {
				mustConform(t, s, record, "", api.ErrAbstract)
				continue
			}
			name, why := modelConforms(s, record)
			mustConform(t, s, record, name, why)
			n[fmt.Sprint(why)]++
		}
	}
	count(t, n, 100, fmt.Sprint(api.OK), fmt.Sprint(api.ErrFields), fmt.Sprint(api.ErrMisfit))
}
