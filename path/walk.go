package path

import (
	"iter"
	"slices"

	"tenon/api"
	"tenon/value"
)

// What is gone through here is a copy of what was handed in: whoever is called between may write into that, and it would not be seen.

// slots is what lies right within a part, in its order: the step that leads there, and the place itself, so that another value can be laid there.
func slots(part any) iter.Seq2[api.Step, *any] {
	return func(yield func(api.Step, *any) bool) {
		if l, ok := part.(api.List); ok {
			for i := range l {
				if !yield(api.Step{At: true, Index: i}, &l[i]) {
					return
				}
			}
		}
		d, _ := fieldsOf(part)
		for i := range d {
			if !yield(api.Step{Name: d[i].Name}, &d[i].Value) {
				return
			}
		}
	}
}

// guarded makes a call of what was handed in. The error stands from the beginning on and is taken back only when the call has come to its end, so that it does not matter what is panicked with.
func guarded(call func()) (e api.Errno) {
	e = api.ErrPanic
	defer func() { recover() }()
	call()
	return api.OK
}

// walk shows a part and those within it, and tells whether to go on.
func walk(visit func([]api.Step, any) int, way []api.Step, part any) (bool, api.Errno) {
	shown, e := value.Copy(part)
	if e != api.OK {
		return false, e
	}
	said := 0
	if e := guarded(func() { said = visit(slices.Clone(way), shown) }); e != api.OK {
		return false, e
	}
	switch said {
	case api.Past:
		return true, api.OK
	case api.Stop:
		return false, api.OK
	case api.GoOn:
		return walkWithin(visit, way, part)
	}
	return false, api.ErrStop
}

func walkWithin(visit func([]api.Step, any) int, way []api.Step, part any) (bool, api.Errno) {
	for step, slot := range slots(part) {
		if on, e := walk(visit, append(way, step), *slot); !on {
			return false, e
		}
	}
	return true, api.OK
}

func found(whole any, meant func(any) bool) ([][]api.Step, api.Errno) {
	ways := [][]api.Step{}
	_, e := walk(func(way []api.Step, part any) int {
		if meant(part) {
			ways = append(ways, way)
		}
		return api.GoOn
	}, nil, whole)
	if e != api.OK {
		return nil, e
	}
	return ways, api.OK
}

// changed is what becomes of a part. It is handed away as it came out, and need not be able to be; a copy of what is answered takes its place, so that no two calls are shown one memory. That the whole can be is told with the last answer, which is the whole.
func changed(change func([]api.Step, any) (any, api.Errno), way []api.Step, part any) (any, api.Errno) {
	for step, slot := range slots(part) {
		x, e := changed(change, append(way, step), *slot)
		if e != api.OK {
			return nil, e
		}
		*slot = x
	}
	var said any
	var why api.Errno
	if e := guarded(func() { said, why = change(slices.Clone(way), part) }); e != api.OK {
		return nil, e
	}
	if why != api.OK {
		return nil, why
	}
	return value.Copy(said)
}
