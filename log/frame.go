package log

import (
	"bytes"

	"tenon/api"
	"tenon/sums"
)

// Ahead of a frame's Body stand its kind and, in so many bytes, how long Body is; behind it the sum of all these.
const (
	lengthSize = 4
	headSize   = 1 + lengthSize
	sumSize    = 8
)

// Pack is a frame's bytes.
func Pack(f api.Frame) ([]byte, api.Errno) {
	if e := fault(f); e != api.OK {
		return nil, e
	}
	return packed([]api.Frame{f}), api.OK
}

// fault is why a frame can't be.
func fault(f api.Frame) api.Errno {
	if f.Kind < 1 || f.Kind > 255 {
		return api.ErrArg
	}
	if len(f.Body) > api.MaxFrame {
		return api.ErrLong
	}
	return api.OK
}

// size is how many bytes frames have that can be.
func size(l []api.Frame) int {
	n := 0
	for _, f := range l {
		n += headSize + len(f.Body) + sumSize
	}
	return n
}

// packed is the bytes of frames that can be, one behind the other.
func packed(l []api.Frame) []byte {
	out := make([]byte, 0, size(l))
	for _, f := range l {
		begin := len(out)
		out = append(out, byte(f.Kind))
		out = lowestFirst(out, uint64(len(f.Body)), lengthSize)
		out = append(out, f.Body...)
		out = lowestFirst(out, sums.Of(out[begin:]), sumSize)
	}
	return out
}

// lowestFirst puts a number behind bytes, in so many further ones.
func lowestFirst(out []byte, n uint64, count int) []byte {
	for range count {
		out = append(out, byte(n))
		n >>= 8
	}
	return out
}

// number is what lowestFirst put there.
func number(b []byte) uint64 {
	var n uint64
	for i, x := range b {
		n |= uint64(x) << (8 * i)
	}
	return n
}

// Read is the frames that stand whole at the beginning of bytes, how many bytes they have, and why there are no more.
func Read(b []byte) ([]api.Frame, int, api.Errno) {
	var l []api.Frame
	at := 0
	for at < len(b) {
		f, n, e := first(b[at:])
		if e != api.OK {
			return l, at, e
		}
		l = append(l, f)
		at += n
	}
	return l, at, api.OK
}

// first is the frame that stands at the beginning of bytes, of which there is one at least, and how many of them it has.
func first(b []byte) (api.Frame, int, api.Errno) {
	if b[0] == 0 {
		return api.Frame{}, 0, api.ErrArg
	}
	if len(b) < headSize {
		return api.Frame{}, 0, api.ErrTorn
	}
	length := number(b[1:headSize])
	if length > api.MaxFrame {
		return api.Frame{}, 0, api.ErrLong
	}
	end := headSize + int(length)
	if len(b) < end+sumSize {
		return api.Frame{}, 0, api.ErrTorn
	}
	if number(b[end:end+sumSize]) != sums.Of(b[:end]) {
		return api.Frame{}, 0, api.ErrSum
	}
	return api.Frame{Kind: int(b[0]), Body: bytes.Clone(b[headSize:end])}, end + sumSize, api.OK
}
