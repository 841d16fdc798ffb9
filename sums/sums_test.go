package sums_test

import (
	"hash/fnv"
	"testing"

	"tenon/sums"
)

// The sums that the algorithm's authors give for some texts.
func TestSums(t *testing.T) {
	for text, want := range map[string]uint64{"": 0xcbf29ce484222325, "a": 0xaf63dc4c8601ec8c, "foobar": 0x85944171f73967e8} {
		if h := sums.Of([]byte(text)); h != want {
			t.Errorf("%q: %x, not %x", text, h, want)
		}
	}
	if sums.Of(nil) != sums.Of([]byte{}) {
		t.Error("nil and empty are told apart")
	}
}

// Each byte, and each byte of 256, as Go's own library has it.
func TestEachByte(t *testing.T) {
	var all []byte
	for c := range 256 {
		all = append(all, byte(c))
		for _, b := range [][]byte{{byte(c)}, all} {
			h := fnv.New64a()
			h.Write(b)
			if sums.Of(b) != h.Sum64() {
				t.Errorf("%d bytes up to %d: %x, not %x", len(b), c, sums.Of(b), h.Sum64())
			}
		}
	}
}
