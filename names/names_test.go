package names_test

import (
	"strings"
	"testing"

	"tenon/api"
	"tenon/names"
	"tenon/sample"
)

func TestNames(t *testing.T) {
	for _, s := range sample.GoodNames() {
		if !names.Is(s) {
			t.Errorf("%q is one", s)
		}
	}
	for _, s := range sample.BadNames() {
		if names.Is(s) {
			t.Errorf("%q is none", s)
		}
	}
}

// Each byte as the first, one between and the last.
func TestBytes(t *testing.T) {
	const letters = "abcdefghijklmnopqrstuvwxyz"
	for c := range 256 {
		b := string([]byte{byte(c)})
		first, further := strings.Contains(letters, b), strings.Contains(letters+"0123456789_", b)
		if names.Is(b) != first || names.Is(b+"a") != first || names.Is("a"+b+"a") != further || names.Is("a"+b) != further {
			t.Errorf("%q", b)
		}
		if names.Byte(byte(c)) != further {
			t.Errorf("%q in a name", b)
		}
		last := strings.Repeat("a", api.MaxName-1) + b
		if names.Is(last) != further || names.Is(last+b) {
			t.Errorf("%q at the end of the longest", b)
		}
	}
}
