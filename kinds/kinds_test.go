package kinds_test

import (
	"strings"
	"testing"

	"tenon/api"
	"tenon/kinds"
)

func TestKinds(t *testing.T) {
	want := strings.Fields("nil bool int float text bytes ref list dict record")
	for i, word := range want {
		if kind := api.KNil + i; kinds.Word(kind) != word || kinds.Of(word) != kind {
			t.Errorf("%s: %q, %d", word, kinds.Word(kind), kinds.Of(word))
		}
	}
	for _, kind := range []int{-1 << 63, -1, api.KAlien, api.KNothing, 12, 1<<63 - 1} {
		if w := kinds.Word(kind); w != "" {
			t.Errorf("%d: %q", kind, w)
		}
	}
	for _, word := range []string{"", " ", "Nil", "nil ", "ni", "string", "alien", "any", "nothing"} {
		if k := kinds.Of(word); k != 0 {
			t.Errorf("%q: %d", word, k)
		}
	}
}
