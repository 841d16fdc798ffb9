package convert

import (
	"strings"

	"tenon/api"
	"tenon/value"
)

// The abilities of a converter, as numbers that are added up.
const (
	isReversible = 1
	isPartial    = 2
	isCosted     = 4
)

// plainCost is that of a converter which is not Costed.
const plainCost = 1

// kept is a converter that was taken up, or may be, with its abilities. Its calls may panic.
type kept struct {
	api.Converter
	abilities int
}

// abilitiesOf tells what a converter has beside; none of its methods is called.
func abilitiesOf(c api.Converter) int {
	n := 0
	if _, ok := c.(api.Reversible); ok {
		n += isReversible
	}
	if _, ok := c.(api.Partial); ok {
		n += isPartial
	}
	if _, ok := c.(api.Costed); ok {
		n += isCosted
	}
	return n
}

// ask has the converter tell the way that it is. ErrPanic stands till the last call has come to its end, so that it does not matter what is panicked with.
func (k kept) ask() (w way, e api.Errno) {
	e = api.ErrPanic
	defer func() { recover() }()
	class, from := k.From()
	told := way{class: strings.Clone(class), from: from, to: k.To(), cost: plainCost}
	if c, ok := k.Converter.(api.Costed); ok {
		told.cost = c.Cost()
	}
	return told, api.OK
}

// ways is the way forward, and the way back, if there is one.
func (k kept) ways(forward way) []way {
	if k.abilities&isReversible == 0 {
		return []way{forward}
	}
	return []way{forward, forward.back()}
}

// step is the record that comes of another one by a way. That one must be nobody else's: its fields go to the converter, who may do with them what it likes.
func (r *Registry) step(x *api.Record, w way) (*api.Record, api.Errno) {
	var fields api.Dict
	var e api.Errno
	if w.number < 0 {
		fields, e = r.taken[-w.number-1].backward(x.Fields)
	} else {
		fields, e = r.taken[w.number-1].forward(x.Fields)
	}
	if e != api.OK {
		return nil, e
	}
	made, e := copied(&api.Record{Class: x.Class, Version: w.to, Fields: fields})
	if e != api.OK {
		return nil, api.ErrBad
	}
	return made, api.OK
}

// forward is what the converter makes of fields; ErrPanic stands as in ask.
func (k kept) forward(fields api.Dict) (made api.Dict, e api.Errno) {
	e = api.ErrPanic
	defer func() { recover() }()
	if p, ok := k.Converter.(api.Partial); ok {
		if !p.Takes(copiedFields(fields)) {
			return nil, api.ErrPartial
		}
	}
	return k.Convert(fields)
}

// backward is what the converter makes of fields when it is gone back, which only one that is Reversible is.
func (k kept) backward(fields api.Dict) (made api.Dict, e api.Errno) {
	e = api.ErrPanic
	defer func() { recover() }()
	if b, ok := k.Converter.(api.Reversible); ok {
		return b.Back(fields)
	}
	return nil, api.ErrChain
}

// copiedFields is of a record's fields, which can be.
func copiedFields(fields api.Dict) api.Dict {
	v, _ := value.Copy(fields)
	d, _ := v.(api.Dict)
	return d
}
