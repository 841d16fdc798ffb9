package log_test

import (
	"bytes"
	"slices"
	"testing"

	"tenon/api"
	"tenon/log"
)

// P19.1: frames one behind the other, from none on.
func TestRead(t *testing.T) {
	mustRead(t, "nil", nil, nil, 0, api.OK)
	mustRead(t, "none", []byte{}, nil, 0, api.OK)
	all := several()
	for n := range len(all) + 1 {
		b := coded(all[:n]...)
		mustRead(t, n, b, all[:n], len(b), api.OK)
	}
}

// wrong is bytes that are no frames, and why.
type wrong struct {
	name string
	b    []byte
	why  api.Errno
}

// whyNot is all that may stand behind frames and be none.
func whyNot() []wrong {
	l := []wrong{
		{"kind 0 alone", []byte{0}, api.ErrArg},
		{"kind 0 and a piece of a length", []byte{0, 1, 0, 0}, api.ErrArg},
		{"kind 0 and a length", []byte{0, 1, 0, 0, 0}, api.ErrArg},
		{"kind 0 and a piece of a great length", []byte{0, 255, 255, 255}, api.ErrArg},
		{"kind 0 and a great length", []byte{0, 255, 255, 255, 255}, api.ErrArg},
		{"noughts", make([]byte, 100), api.ErrArg},
		{"a kind alone", []byte{1}, api.ErrTorn},
		{"the greatest kind alone", []byte{255}, api.ErrTorn},
		{"a piece of a great length", []byte{1, 255, 255, 255}, api.ErrTorn},
		{"two bytes of a length", []byte{1, 9, 9}, api.ErrTorn},
		{"the greatest length", []byte{1, 0, 0, 16, 0}, api.ErrTorn},
		{"the greatest length and a piece of a Body", append([]byte{1, 0, 0, 16, 0}, make([]byte, 1000)...), api.ErrTorn},
		{"all but a sum", coded(frame(4, "abc"))[:8], api.ErrTorn},
		{"all but the last byte of a sum", coded(frame(4, "abc"))[:15], api.ErrTorn},
		{"all but the last byte, with another sum", slices.Concat(coded(frame(4, "abc"))[:8], make([]byte, 7)), api.ErrTorn},
		{"a sum of noughts", slices.Concat(coded(frame(4, "abc"))[:8], make([]byte, 8)), api.ErrSum},
		{"a sum of another frame", slices.Concat(coded(frame(4, "abc"))[:8], coded(frame(4, "abd"))[8:]), api.ErrSum},
		{"a sum the other way round", slices.Concat(coded(frame(4, "abc"))[:8], turned(coded(frame(4, "abc"))[8:])), api.ErrSum},
		{"another sum, and a frame", append(slices.Concat(coded(frame(4, "abc"))[:8], make([]byte, 8)), coded(frame(1, ""))...), api.ErrSum},
	}
	for _, length := range [][]byte{{1, 0, 16, 0}, {0, 0, 32, 0}, {0, 1, 16, 0}, {0, 0, 0, 1}, {0, 0, 0, 128}, {1, 0, 0, 128}, {255, 255, 255, 127}, {255, 255, 255, 255}} {
		head := append([]byte{1}, length...)
		l = append(l, wrong{"a length too great", head, api.ErrLong}, wrong{"a length too great, and more", append(head, coded(several()...)...), api.ErrLong})
	}
	return append(l, wrong{"a length too great, and a whole frame of it", tooLong(), api.ErrLong}, wrong{"the same and a frame", append(tooLong(), coded(frame(1, ""))...), api.ErrLong})
}

// tooLong is the bytes that a frame of one byte too much would have.
func tooLong() []byte { return coded(api.Frame{Kind: 1, Body: make([]byte, api.MaxFrame+1)}) }

func turned(b []byte) []byte {
	b = bytes.Clone(b)
	slices.Reverse(b)
	return b
}

// P19.1: why it goes no further, whatever stands ahead.
func TestReadWhyNot(t *testing.T) {
	ahead := several()
	for _, x := range whyNot() {
		for n := range len(ahead) + 1 {
			b := coded(ahead[:n]...)
			mustRead(t, []any{x.name, "behind", n}, append(b, x.b...), ahead[:n], len(b), x.why)
		}
	}
}

// P19.4: of each beginning just the frames that stand in it whole.
func TestReadBeginnings(t *testing.T) {
	all := several()
	b := coded(all...)
	whole, at := 0, 0
	for n := range len(b) + 1 {
		if whole < len(all) && n == at+len(coded(all[whole])) {
			whole, at = whole+1, n
		}
		why := api.ErrTorn
		if n == at {
			why = api.OK
		}
		mustRead(t, n, b[:n], all[:whole], at, why)
	}
	if whole != len(all) {
		t.Error(whole)
	}
}

// P19.4: of each beginning of the greatest frame.
func TestReadBeginningsOfTheGreatest(t *testing.T) {
	f := api.Frame{Kind: 3, Body: bytes.Repeat([]byte{7}, api.MaxFrame)}
	b := coded(frame(1, ""), f)
	for _, n := range []int{13, 14, 17, 18, 19, 1000, api.MaxFrame, len(b) - 9, len(b) - 8, len(b) - 7, len(b) - 1} {
		why := api.ErrTorn
		if n == 13 {
			why = api.OK
		}
		mustRead(t, n, b[:n], frames(frame(1, "")), 13, why)
	}
	mustRead(t, "all", b, frames(frame(1, ""), f), len(b), api.OK)
}

// P19.5: each byte that is none of a length, turned into each other one.
func TestReadOneByte(t *testing.T) {
	all := several()
	b := coded(all...)
	at := 0
	for i, f := range all {
		end := at + len(coded(f))
		for place := at; place < end; place++ {
			if place > at && place < at+5 {
				continue
			}
			for by := 1; by < 256; by++ {
				c := bytes.Clone(b)
				c[place] ^= byte(by)
				why := api.ErrSum
				if place == at && c[place] == 0 {
					why = api.ErrArg
				}
				mustRead(t, []any{"byte", place, "turned by", by}, c, all[:i], at, why)
			}
		}
		at = end
	}
}

// P19.1: a byte of a length, turned into each other one: the frames ahead are told, whatever is told of those behind.
func TestReadOneByteOfALength(t *testing.T) {
	all := several()
	b := coded(all...)
	at := 0
	for i, f := range all {
		for place := at + 1; place < at+5; place++ {
			for by := 1; by < 256; by++ {
				c := bytes.Clone(b)
				c[place] ^= byte(by)
				want, n, why := plainly(c)
				mustRead(t, []any{"byte", place, "turned by", by}, c, want, n, why)
				if len(want) < i || !same(want[:i], all[:i]) {
					t.Errorf("byte %d turned by %d: %s", place, by, told(want))
				}
			}
		}
		at += len(coded(f))
	}
}

// P19.1: frames are told where they stand: bytes within a Body that are frames themselves are none.
func TestReadFramesWithin(t *testing.T) {
	inner := string(coded(several()...))
	l := frames(frame(5, inner), frame(6, inner+inner))
	mustRead(t, "frames within", coded(l...), l, len(coded(l...)), api.OK)
	b := coded(l...)[5:] // begins with the inner ones
	mustRead(t, "the inner ones", b[:len(inner)], several(), len(inner), api.OK)
	_, n, e := log.Read(b)
	if n != len(inner) || e == api.OK {
		t.Error(n, e)
	}
}
