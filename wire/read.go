package wire

import (
	"bytes"

	"tenon/api"
	"tenon/names"
)

// more is added to each byte of a number but the last one.
const more = 128

// longest is how many bytes a number has at most: the last of them holds the highest of 64 bits alone.
const longest = 10

// fault is what a reader panics with when it gives up: at which place, and why.
type fault struct {
	at  int
	why api.Errno
}

// look tells how many bytes the first value has, or at which place it is wrong, and why. It catches a reader that gives up; so those that look at parts go on as if nothing could be wrong. Any other panic would be a mistake of this package: it is not hidden.
func look(b []byte) (at int, why api.Errno) {
	defer func() {
		switch f := recover().(type) {
		case nil:
		case fault:
			at, why = f.at, f.why
		default:
			panic(f)
		}
	}()
	r := reader{bytes: b}
	r.value(1)
	return r.at, api.OK
}

// reader goes through bytes from the first one on, so that the first error is the one it gives up with. It makes nothing of them: what bytes claim to hold takes no room till they have been looked at.
type reader struct {
	bytes []byte
	at    int // up to where it has read
	parts int // how many values have begun
}

// value looks at the next value, which lies that deep. What is wrong with a value is told at its first byte, whichever byte shows it.
func (r *reader) value(depth int) {
	start := r.at
	switch r.kind(depth) {
	case api.KNil:
	case api.KBool:
		r.bool()
	case api.KInt, api.KRef:
		r.number()
	case api.KFloat:
		r.take(8)
	case api.KText, api.KBytes:
		r.take(r.count(start, api.MaxText))
	case api.KList:
		for range r.count(start, api.MaxItems) {
			r.value(depth + 1)
		}
	case api.KDict:
		r.fields(start, depth)
	case api.KRecord:
		r.name(start)
		r.version(start)
		r.fields(start, depth)
	default:
		panic(fault{start, api.ErrTag})
	}
}

// kind reads a value's first byte; ahead of it, whether there is room for a further value so deep.
func (r *reader) kind(depth int) byte {
	r.endRule(1)
	if r.parts >= api.MaxNodes || depth > api.MaxDepth {
		panic(fault{r.at, api.ErrLong})
	}
	r.parts++
	return r.byte()
}

func (r *reader) bool() {
	start := r.at
	if r.byte() > 1 {
		panic(fault{start, api.ErrTag})
	}
}

// fields looks at the fields of the dict or record that begins at start.
func (r *reader) fields(start, depth int) {
	var ahead []byte // every name is above it
	for range r.count(start, api.MaxItems) {
		name := r.name(start)
		if bytes.Compare(name, ahead) <= 0 {
			panic(fault{start, api.ErrName})
		}
		r.value(depth + 1)
		ahead = name
	}
}

// name reads a class's or a field's name. One that is too long is not waited for: its bytes need not be there.
func (r *reader) name(start int) []byte {
	n := r.number()
	if n > api.MaxName {
		panic(fault{start, api.ErrName})
	}
	name := r.take(int(n))
	if !names.Is(string(name)) {
		panic(fault{start, api.ErrName})
	}
	return name
}

func (r *reader) version(start int) {
	if n := r.number(); n < 1 || n > api.MaxVersion {
		panic(fault{start, api.ErrArg})
	}
}

// count reads how many bytes or values the value that begins at start has.
func (r *reader) count(start, most int) int {
	n := r.number()
	if n > uint64(most) {
		panic(fault{start, api.ErrLong})
	}
	return int(n)
}

// number reads a number. A byte that shows that it is not in its least form is the last one read of it.
func (r *reader) number() uint64 {
	start := r.at
	n := uint64(0)
	for i := range longest {
		c := r.byte()
		if i == longest-1 && c > 1 || i > 0 && c == 0 {
			break
		}
		n |= uint64(c&^more) << (7 * i)
		if c < more {
			return n
		}
	}
	panic(fault{start, api.ErrLeast})
}

func (r *reader) byte() byte { return r.take(1)[0] }

// take reads n bytes.
func (r *reader) take(n int) []byte {
	r.endRule(n)
	r.at += n
	return r.bytes[r.at-n : r.at]
}

// endRule is of places where n bytes must come.
func (r *reader) endRule(n int) {
	if len(r.bytes)-r.at < n {
		panic(fault{len(r.bytes), api.ErrShort})
	}
}
