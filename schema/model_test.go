package schema_test

import (
	"math/rand"
	"slices"
	"strings"
	"testing"

	"tenon/api"
	"tenon/sample"
	"tenon/schema"
	"tenon/value"
)

// model is a Schema as the chapter tells it, as plainly as can be: classes in a list that is gone through.
type model struct{ l []api.Class }

func (m *model) find(name string, version int) (api.Class, bool) {
	for _, c := range m.l {
		if c.Name == name && c.Version == version {
			return c, true
		}
	}
	return api.Class{}, false
}

func (m *model) latest(name string) int {
	n := 0
	for _, c := range m.l {
		if c.Name == name {
			n = max(n, c.Version)
		}
	}
	return n
}

func (m *model) names() []string {
	var l []string
	for _, c := range m.l {
		l = append(l, c.Name)
	}
	slices.Sort(l)
	return slices.Compact(l)
}

func (m *model) fields(name string, version int) []api.FieldOf {
	c, there := m.find(name, version)
	if !there {
		return nil
	}
	l := append(m.fields(c.Parent, c.ParentVersion), c.Fields...)
	slices.SortFunc(l, func(a, b api.FieldOf) int { return strings.Compare(a.Name, b.Name) })
	return l
}

func (m *model) is(name string, version int, of string) bool {
	c, there := m.find(name, version)
	return there && (name == of || m.is(c.Parent, c.ParentVersion, of))
}

// define is of a class that can be, far from the limits.
func (m *model) define(c api.Class) api.Errno {
	_, there := m.find(c.Name, c.Version)
	_, parentThere := m.find(c.Parent, c.ParentVersion)
	switch {
	case there:
		return api.ErrDefined
	case c.Version != m.latest(c.Name)+1:
		return api.ErrGap
	case c.Parent != "" && !parentThere:
		return api.ErrParent
	}
	for _, f := range m.fields(c.Parent, c.ParentVersion) {
		for _, own := range c.Fields {
			if f.Name == own.Name {
				return api.ErrField
			}
		}
	}
	m.l = append(m.l, c)
	return api.OK
}

func (m *model) fresh(name string, version int) (*api.Record, api.Errno) {
	c, there := m.find(name, version)
	switch {
	case !there:
		return nil, api.ErrClass
	case c.Abstract:
		return nil, api.ErrAbstract
	}
	r := sample.Record(name, version)
	for _, f := range m.fields(name, version) {
		if !f.Has {
			return nil, api.ErrNeeds
		}
		v, _ := value.Of(f.Default)
		r.Fields = append(r.Fields, sample.Field(f.Name, v))
	}
	return r, api.OK
}

// modelNames are the names of the classes that come by chance.
var modelNames = []string{"a", "b", "c"}

// anyClass is a class that can be, of few names and versions, so that all that can happen does.
func anyClass(r *rand.Rand) api.Class {
	c := api.Class{Name: modelNames[r.Intn(3)], Version: 1 + r.Intn(4), Abstract: r.Intn(5) == 0}
	if r.Intn(3) > 0 {
		c.Parent, c.ParentVersion = modelNames[r.Intn(3)], 1+r.Intn(3)
	}
	for _, name := range []string{"f", "g", "h", "i", "was"} {
		if r.Intn(5) > 0 {
			continue
		}
		f := field(name, sample.AnyhowType(r.Intn, 3))
		if r.Intn(3) > 0 {
			f = with(f, sample.Anyhow(r.Intn, 3))
		}
		if r.Intn(4) == 0 {
			f = was(f, []string{"f", "was", "class"}[r.Intn(3)])
		}
		c.Fields = append(c.Fields, f)
	}
	return c
}

// P6.3 to P6.6, P6.9: whatever is defined, the Schema tells what the model tells.
func TestSchemaAsTheModel(t *testing.T) {
	for seed := range int64(30) {
		r := rand.New(rand.NewSource(seed))
		var s schema.Schema
		var m model
		for range 40 {
			c := anyClass(r)
			if r.Intn(2) == 0 {
				c.Version = m.latest(c.Name) + 1
			}
			mustDefine(t, &s, c, m.define(c))
			tellsAs(t, &s, &m)
			if t.Failed() {
				t.Fatal("seed", seed)
			}
		}
	}
}

// tellsAs holds all that a Schema tells against the model.
func tellsAs(t *testing.T, s *schema.Schema, m *model) {
	t.Helper()
	if !slices.Equal(s.Names(), m.names()) {
		t.Error(s.Names())
	}
	for _, name := range modelNames {
		if s.Latest(name) != m.latest(name) {
			t.Error(name, s.Latest(name))
		}
		for version := 0; version <= m.latest(name)+1; version++ {
			want, there := m.find(name, version)
			c, e := s.Class(name, version)
			fields, fe := s.Fields(name, version)
			if (e == api.OK) != there || fe != e || plain(c) != plain(want) || plain(fields) != plain(m.fields(name, version)) {
				t.Error(name, version, c, e, fields, fe)
			}
			record, re := s.New(name, version)
			wantRecord, wantE := m.fresh(name, version)
			if re != wantE || re == api.OK && !value.Same(record, wantRecord) {
				t.Error(name, version, record, re)
			}
			for _, of := range modelNames {
				if s.Is(name, version, of) != m.is(name, version, of) {
					t.Error(name, version, of)
				}
				parentsHold(t, s, name, version, of)
			}
		}
	}
}

// parentsHold is P6.9: what a parent has, the class has.
func parentsHold(t *testing.T, s *schema.Schema, name string, version int, of string) {
	t.Helper()
	if !s.Is(name, version, of) {
		return
	}
	fields, _ := s.Fields(name, version)
	c, _ := s.Class(name, version)
	for c.Name != of {
		c, _ = s.Class(c.Parent, c.ParentVersion)
	}
	parents, _ := s.Fields(c.Name, c.Version)
	for _, f := range parents {
		if !slices.ContainsFunc(fields, func(g api.FieldOf) bool { return plain(g) == plain(f) }) {
			t.Error(name, version, "has not", f.Name, "of", c.Name, c.Version)
		}
	}
}
