package evolve

import (
	"slices"
	"strings"

	"tenon/api"
	"tenon/check"
	"tenon/schema"
	"tenon/types"
	"tenon/value"
)

// step leads from one version of a class to another one: all fields of both, and from which of the earlier ones each later one comes.
type step struct {
	class          string
	from, to       int
	earlier, later []api.FieldOf
	sources        []int // of each later one the place of the earlier one; below 0: it comes from none
}

// stepOf is of two versions that are there and are not one.
func stepOf(s *schema.Schema, name string, from, to int) (*step, api.Errno) {
	if s == nil {
		return nil, api.ErrNil
	}
	earlier, e := s.Fields(name, from)
	if e != api.OK {
		return nil, e
	}
	later, e := s.Fields(name, to)
	if e != api.OK {
		return nil, e
	}
	if from == to {
		return nil, api.ErrArg
	}
	p := &step{class: name, from: from, to: to, earlier: earlier, later: later}
	p.findSources()
	return p, api.OK
}

// turned is the step the other way.
func (p *step) turned() *step {
	t := &step{class: p.class, from: p.to, to: p.from, earlier: p.later, later: p.earlier}
	t.findSources()
	return t
}

func (p *step) findSources() {
	p.sources = make([]int, len(p.later))
	for i := range p.later {
		p.sources[i] = p.placeOfSource(&p.later[i])
	}
}

// placeOfSource goes by a field's own name first; by the name that it had only where the versions are neighbours, since Was tells of the version ahead alone.
func (p *step) placeOfSource(f *api.FieldOf) int {
	at := placeOf(p.earlier, f.Name)
	switch {
	case at >= 0:
		return at
	case p.to == p.from+1 && placeOf(p.later, f.Was) < 0: // without a Was there is none of that name either
		return placeOf(p.earlier, f.Was)
	case p.to == p.from-1:
		return p.placeOfRenamed(f.Name)
	}
	return -1
}

// placeOfRenamed is of the first earlier field that had that name once, and has another one that is not there later.
func (p *step) placeOfRenamed(name string) int {
	for i := range p.earlier {
		if f := &p.earlier[i]; f.Was == name && placeOf(p.later, f.Name) < 0 {
			return i
		}
	}
	return -1
}

// source is the earlier field from which a later one comes, by its place; nil: from none.
func (p *step) source(place int) *api.FieldOf {
	if at := p.sources[place]; at >= 0 {
		return &p.earlier[at]
	}
	return nil
}

func (p *step) changes() []api.Evolution {
	var l []api.Evolution
	for i := range p.later {
		if x := become(p.source(i), &p.later[i]); x.What != 0 {
			l = append(l, x)
		}
	}
	for _, name := range p.gone() {
		l = append(l, api.Evolution{Name: name, Was: name, What: api.FieldGone})
	}
	return l
}

// gone is the names of the earlier fields from which no later one comes.
func (p *step) gone() []string {
	kept := make([]bool, len(p.earlier))
	for _, at := range p.sources {
		if at >= 0 {
			kept[at] = true
		}
	}
	var l []string
	for i, f := range p.earlier {
		if !kept[i] {
			l = append(l, f.Name)
		}
	}
	return l
}

func (p *step) needs() []string {
	var l []string
	for i := range p.later {
		if f := &p.later[i]; !f.Has && !meet(p.source(i), f) {
			l = append(l, f.Name)
		}
	}
	return l
}

// partial tells whether fields that conform to the earlier version may hold what nothing stands for in the later one.
func (p *step) partial() bool {
	for i := range p.later {
		source, f := p.source(i), &p.later[i]
		if source != nil && !f.Has && !plainlyOf(source.Type, f.Type) {
			return true
		}
	}
	return false
}

// become is what has become of an earlier field (nil: of none) in a later one.
func become(earlier, later *api.FieldOf) api.Evolution {
	if earlier == nil {
		return api.Evolution{Name: later.Name, What: api.FieldNew}
	}
	x := api.Evolution{Name: later.Name, Was: earlier.Name}
	if earlier.Name != later.Name {
		x.What += api.FieldNamed
	}
	switch {
	case types.Same(earlier.Type, later.Type):
	case plainlyOf(earlier.Type, later.Type):
		x.What += api.FieldWider
	default:
		x.What += api.FieldOther
	}
	if earlier.Has != later.Has || !value.Same(defaultOf(earlier), defaultOf(later)) {
		x.What += api.FieldDefault
	}
	return x
}

// meet tells whether a later field comes from an earlier one (nil: it does not) whose type plainly has values in common with its own.
func meet(earlier, later *api.FieldOf) bool {
	return earlier != nil && (plainlyOf(earlier.Type, later.Type) || plainlyOf(later.Type, earlier.Type))
}

// plainlyOf asks first whether the types are one: mostly they are, and that is told much faster.
func plainlyOf(a, b api.Type) bool {
	if types.Same(a, b) {
		return true
	}
	ok, _ := check.Sub(a, b)
	return ok
}

// placeOf is the place of the field of that name among fields whose names rise; below 0: there is none.
func placeOf(fields []api.FieldOf, name string) int {
	at, there := slices.BinarySearchFunc(fields, name, func(f api.FieldOf, name string) int { return strings.Compare(f.Name, name) })
	if !there {
		return -1
	}
	return at
}
