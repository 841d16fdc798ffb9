package log_test

import (
	"bytes"
	"encoding/hex"
	"math"
	"strings"
	"testing"

	"tenon/api"
	"tenon/log"
)

// mustPack: a frame must have those bytes.
func mustPack(t *testing.T, f api.Frame, want []byte) {
	t.Helper()
	if b, e := log.Pack(f); !bytes.Equal(b, want) || e != api.OK {
		t.Errorf("Pack(%s): %x, %d, want %x", told(frames(f)), b[:min(len(b), 50)], e, want[:min(len(want), 50)])
	}
}

// mustNotPack: a frame can't be.
func mustNotPack(t *testing.T, f api.Frame, want api.Errno) {
	t.Helper()
	if b, e := log.Pack(f); b != nil || e != want {
		t.Errorf("Pack(%d, %d bytes): %d bytes, %d, want %d", f.Kind, len(f.Body), len(b), e, want)
	}
}

// P19.1: the bytes of some frames, digit by digit.
func TestPackDigits(t *testing.T) {
	for digits, f := range map[string]api.Frame{
		"01 00000000 ec7edca7ae6c0dd8":                      frame(1, ""),
		"ff 04000000 626f6479 8e0fce4950705e6e":             frame(255, "body"),
		"07 05000000 00ff008080 f686180220626786":           frame(7, "\x00\xff\x00\x80\x80"),
		"02 0a000000 ffffffffffffffffffff 2570f844accb1a73": frame(2, strings.Repeat("\xff", 10)),
	} {
		want, _ := hex.DecodeString(strings.ReplaceAll(digits, " ", ""))
		mustPack(t, f, want)
	}
}

// P19.1: each kind that can be, and kinds that can't.
func TestPackKinds(t *testing.T) {
	for kind := 1; kind <= 255; kind++ {
		f := frame(kind, "abc")
		mustPack(t, f, coded(f))
		mustRead(t, kind, coded(f), frames(f), 16, api.OK)
	}
	for _, kind := range []int{0, 256, 257, 511, 512, -1, -2, -255, -256, 1 << 16, 1<<16 + 1, 1<<32 + 1, math.MaxInt, math.MinInt, math.MinInt + 1} {
		for _, body := range []string{"", "abc"} {
			mustNotPack(t, frame(kind, body), api.ErrArg)
		}
	}
}

// P19.1: nil and none are alike; so are bodies with spare room and without.
func TestPackNone(t *testing.T) {
	want := coded(frame(3, ""))
	for _, body := range [][]byte{nil, {}, make([]byte, 0, 9), []byte("abc")[:0], []byte("abc")[3:]} {
		mustPack(t, api.Frame{Kind: 3, Body: body}, want)
	}
}

// P19.1: the length is in four bytes, the lowest first.
func TestPackLengths(t *testing.T) {
	for _, n := range []int{1, 2, 127, 128, 255, 256, 257, 1<<16 - 1, 1 << 16, 1<<16 + 1, 0x030201, api.MaxFrame - 1} {
		f := api.Frame{Kind: 9, Body: bytes.Repeat([]byte{5}, n)}
		b, e := log.Pack(f)
		must(t, n, e, api.OK)
		if len(b) != n+13 || !bytes.Equal(b[:5], []byte{9, byte(n), byte(n >> 8), byte(n >> 16), 0}) || !bytes.Equal(b, coded(f)) {
			t.Errorf("%d: %d bytes, %x", n, len(b), b[:5])
		}
		mustRead(t, n, b, frames(f), n+13, api.OK)
	}
}

// P19.1: a Body of MaxFrame bytes and one more; where both are wrong, the kind is told.
func TestPackLong(t *testing.T) {
	most, more := make([]byte, api.MaxFrame), make([]byte, api.MaxFrame+1)
	mustPack(t, api.Frame{Kind: 1, Body: most}, coded(api.Frame{Kind: 1, Body: most}))
	mustNotPack(t, api.Frame{Kind: 1, Body: more}, api.ErrLong)
	mustNotPack(t, api.Frame{Kind: 255, Body: make([]byte, 2*api.MaxFrame)}, api.ErrLong)
	for _, kind := range []int{0, 256, -1} {
		mustNotPack(t, api.Frame{Kind: kind, Body: most}, api.ErrArg)
		mustNotPack(t, api.Frame{Kind: kind, Body: more}, api.ErrArg)
	}
}

// P19.1: a frame's bytes are the same whenever they are asked.
func TestPackAgain(t *testing.T) {
	for _, f := range several() {
		first, _ := log.Pack(f)
		second, _ := log.Pack(f)
		if !bytes.Equal(first, second) {
			t.Errorf("%s: %x, then %x", told(frames(f)), first, second)
		}
	}
}
