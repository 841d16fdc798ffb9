package value

import (
	"tenon/api"
	"tenon/names"
)

// walk goes through the parts of a value, or of a term, in the order of their numbers. It gives up at the first part that is wrong, which is then the last one counted; so its way is bounded by the limits even where a value holds itself.
type walk struct {
	parts   int // how many it has come to
	deepest int
}

func (w *walk) value(v any, depth int) api.Errno {
	if e := w.enter(kindOf(v), depth); e != api.OK {
		return e
	}
	switch x := v.(type) {
	case string:
		return lengthRule(len(x), api.MaxText)
	case []byte:
		return lengthRule(len(x), api.MaxText)
	case api.List:
		return w.list(x, depth)
	case api.Dict:
		return w.dict(x, depth)
	case *api.Record:
		if e := headRule(x.Class, x.Version); e != api.OK {
			return e
		}
		return w.dict(x.Fields, depth)
	}
	return api.OK
}

func (w *walk) list(l api.List, depth int) api.Errno {
	if e := lengthRule(len(l), api.MaxItems); e != api.OK {
		return e
	}
	for _, v := range l {
		if e := w.value(v, depth+1); e != api.OK {
			return e
		}
	}
	return api.OK
}

func (w *walk) dict(d api.Dict, depth int) api.Errno {
	if e := fieldsRule(d, func(f api.Field) string { return f.Name }); e != api.OK {
		return e
	}
	for _, f := range d {
		if e := w.value(f.Value, depth+1); e != api.OK {
			return e
		}
	}
	return api.OK
}

// term looks at those fields alone that play a part in a term of its kind.
func (w *walk) term(t api.Term, depth int) api.Errno {
	if e := w.enter(t.Kind, depth); e != api.OK {
		return e
	}
	switch t.Kind {
	case api.KText:
		return lengthRule(len(t.Text), api.MaxText)
	case api.KBytes:
		return lengthRule(len(t.Bytes), api.MaxText)
	case api.KList:
		return w.terms(t.List, depth)
	case api.KDict:
		return w.entries(t.Fields, depth)
	case api.KRecord:
		if e := headRule(t.Class, t.Version); e != api.OK {
			return e
		}
		return w.entries(t.Fields, depth)
	}
	return api.OK
}

func (w *walk) terms(l []api.Term, depth int) api.Errno {
	if e := lengthRule(len(l), api.MaxItems); e != api.OK {
		return e
	}
	for _, t := range l {
		if e := w.term(t, depth+1); e != api.OK {
			return e
		}
	}
	return api.OK
}

func (w *walk) entries(l []api.Entry, depth int) api.Errno {
	if e := fieldsRule(l, func(x api.Entry) string { return x.Name }); e != api.OK {
		return e
	}
	for _, x := range l {
		if e := w.term(x.Value, depth+1); e != api.OK {
			return e
		}
	}
	return api.OK
}

// enter counts a part in, and tells whether it is wrong by its kind or by its place; what it holds is not asked yet, since these errors come first.
func (w *walk) enter(kind, depth int) api.Errno {
	number := w.parts
	w.parts++
	w.deepest = max(w.deepest, depth)
	switch {
	case kind == api.KNothing:
		return api.ErrNil
	case kind < api.KNil || kind > api.KRecord:
		return api.ErrKind
	case number >= api.MaxNodes || depth > api.MaxDepth:
		return api.ErrLong
	}
	return api.OK
}

func lengthRule(n, most int) api.Errno {
	if n > most {
		return api.ErrLong
	}
	return api.OK
}

// headRule is of a record's class and version, which are asked ahead of its fields.
func headRule(class string, version int) api.Errno {
	switch {
	case !names.Is(class):
		return api.ErrName
	case version < 1 || version > api.MaxVersion:
		return api.ErrArg
	}
	return api.OK
}

// fieldsRule is of the fields' number and names, not of what stands under these: those are parts of their own, with higher numbers.
func fieldsRule[F any](fields []F, nameOf func(F) string) api.Errno {
	if e := lengthRule(len(fields), api.MaxItems); e != api.OK {
		return e
	}
	ahead := "" // every name is above it
	for _, f := range fields {
		name := nameOf(f)
		if !names.Is(name) || name <= ahead {
			return api.ErrName
		}
		ahead = name
	}
	return api.OK
}
