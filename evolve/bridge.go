package evolve

import (
	"slices"
	"strings"

	"tenon/api"
	"tenon/value"
)

// bridge is a converter that follows from two versions; it has all that it needs of them, and nobody writes into it once it is made.
type bridge struct {
	class    string
	from, to int
	names    []string // of the earlier fields, rising
	lanes    []lane   // of the later ones, rising
}

// lane is how a later field comes to its value.
type lane struct {
	name   string
	source int // the place of the earlier field; below 0: there is none
	of     api.Type
	has    bool
	rest   any // if has: the default
}

// The abilities of a converter, each by itself: what is handed out embeds just those that it has.

// partial is a bridge that does not take all fields.
type partial struct{ *bridge }

// returning goes back, by the bridge that leads the other way.
type returning struct{ back *bridge }

// reversible is a bridge that takes all fields and can be gone back.
type reversible struct {
	*bridge
	returning
}

// partialReversible does not take all fields and can be gone back.
type partialReversible struct {
	partial
	returning
}

// converter is of a step that needs nothing.
func (p *step) converter() api.Converter {
	over, turned := p.bridge(), p.turned()
	goesBack := len(p.gone()) == 0 && len(turned.needs()) == 0
	switch isPartial := p.partial(); {
	case isPartial && goesBack:
		return partialReversible{partial{over}, returning{turned.bridge()}}
	case isPartial:
		return partial{over}
	case goesBack:
		return reversible{over, returning{turned.bridge()}}
	}
	return over
}

func (p *step) bridge() *bridge {
	b := &bridge{class: strings.Clone(p.class), from: p.from, to: p.to}
	for i := range p.earlier {
		b.names = append(b.names, p.earlier[i].Name)
	}
	for i := range p.later {
		f := &p.later[i]
		b.lanes = append(b.lanes, lane{name: f.Name, source: p.sources[i], of: f.Type, has: f.Has, rest: defaultOf(f)})
	}
	return b
}

// From is which version of which class it takes.
func (b *bridge) From() (class string, version int) { return b.class, b.from }

// To is the version that it leads to.
func (b *bridge) To() int { return b.to }

// Convert makes the earlier version's fields into the later one's.
func (b *bridge) Convert(fields api.Dict) (api.Dict, api.Errno) {
	d, e := b.draft(fields)
	if e != api.OK {
		return nil, e
	}
	c, e := value.Copy(d)
	if e != api.OK {
		return nil, e
	}
	return c.(api.Dict), api.OK
}

// Takes tells whether Convert would answer OK.
func (p partial) Takes(fields api.Dict) bool {
	d, e := p.draft(fields)
	if e != api.OK {
		return false
	}
	_, e = value.Check(d)
	return e == api.OK
}

// Back makes the later version's fields into the earlier one's.
func (r returning) Back(fields api.Dict) (api.Dict, api.Errno) { return r.back.Convert(fields) }

// draft is the later fields, which may be too great; what they hold is still what was handed in, and the bridge's own.
func (b *bridge) draft(fields api.Dict) (api.Dict, api.Errno) {
	if _, e := value.Check(fields); e != api.OK {
		return nil, e
	}
	if !slices.EqualFunc(fields, b.names, func(f api.Field, name string) bool { return f.Name == name }) {
		return nil, api.ErrFields
	}
	d := make(api.Dict, len(b.lanes))
	for i := range b.lanes {
		v, ok := b.lanes[i].take(fields)
		if !ok {
			return nil, api.ErrMisfit
		}
		d[i] = api.Field{Name: b.lanes[i].name, Value: v}
	}
	return d, api.OK
}

// take is what a later field holds, made of the earlier ones; false: nothing stands for what they hold.
func (l *lane) take(fields api.Dict) (any, bool) {
	if l.source >= 0 && isOf(fields[l.source].Value, l.of) {
		return fields[l.source].Value, true
	}
	return l.rest, l.has
}
