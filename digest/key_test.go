package digest_test

import (
	"hash/fnv"
	"math"
	"math/rand"
	"testing"

	"tenon/api"
	"tenon/digest"
	"tenon/sample"
	"tenon/value"
	"tenon/wire"
)

// keyed is what Key answers of a value that can be.
func keyed(t *testing.T, v any) string {
	t.Helper()
	key, e := digest.Key(v)
	if e != api.OK {
		t.Fatalf("%T: %d", v, e)
	}
	return key
}

// values is many values that can be, the limits themselves and whatever comes among them.
func values() []any {
	r := rand.New(rand.NewSource(5))
	all := append(append(sample.Rich(), mixed()...), floatKeys()...)
	for range 500 {
		all = append(all, sample.Anyhow(r.Intn, 4), sample.Anything(r.Uint64, 3))
	}
	return all
}

// P5.1: the bytes of wire as a text, and the sum over these.
func TestKeyAndSum(t *testing.T) {
	for _, x := range []struct {
		v   any
		key string
		sum uint64
	}{
		{nil, "\x01", 0xaf63bc4c8601b62c}, {true, "\x02\x01", 0x08395307b4f1348c}, {"", "\x05\x00", 0x08218a07b4dd0020},
		{int64(-1), "\x03\x01", 0x0835ef07b4ee54c9}, {api.List{nil}, "\x08\x01\x01", 0x1e958518934c4399}, {sample.Record("p", 1), "\x0a\x01p\x01\x00", 0x23d2d978c89377b5},
	} {
		if key := keyed(t, x.v); key != x.key {
			t.Errorf("Key of %v: %q, want %q", x.v, key, x.key)
		}
		if sum, e := digest.Sum(x.v); sum != x.sum || e != api.OK {
			t.Errorf("Sum of %v: %x, %d, want %x", x.v, sum, e, x.sum)
		}
	}
	if sum, e := digest.Sum(nil); sum != 12638152016183539244 || e != api.OK {
		t.Error(sum, e)
	}
	for i, v := range values() {
		b, _ := wire.Encode(v)
		if key := keyed(t, v); key != string(b) {
			t.Errorf("%d: %q, want %q", i, key, b)
		}
		h := fnv.New64a() // the library's own sum goes by the same rule
		h.Write(b)
		if sum, e := digest.Sum(v); sum != h.Sum64() || e != api.OK {
			t.Errorf("%d: %x, %d, want %x", i, sum, e, h.Sum64())
		}
	}
}

// P5.1: none and Check's error of what can't be.
func TestKeyAndSumWrong(t *testing.T) {
	wrongs := sample.Wrongs()
	for _, alien := range []any{7, 'a', uint64(1), float32(1), []any{}, map[string]any{}, func() {}, make(chan int), struct{}{}, [1]any{func() {}}, api.Record{Class: "a", Version: 1}, (*api.List)(nil), api.OK} {
		wrongs = append(wrongs, sample.Wrong{Name: "alien", V: alien, Why: api.ErrKind})
	}
	for _, x := range wrongs {
		if key, e := digest.Key(x.V); key != "" || e != x.Why {
			t.Errorf("Key, %s, %T: %q, %d, want %d", x.Name, x.V, key, e, x.Why)
		}
		if sum, e := digest.Sum(x.V); sum != 0 || e != x.Why {
			t.Errorf("Sum, %s, %T: %d, %d, want %d", x.Name, x.V, sum, e, x.Why)
		}
	}
}

// P5.5: one key just if two values are the same, however much alike they are; then one sum, too.
func TestKeysTellApart(t *testing.T) {
	all := append(values(), api.List(nil), api.Dict(nil), []byte(nil))
	keys, sums := make([]string, len(all)), make([]uint64, len(all))
	for i, v := range all {
		keys[i] = keyed(t, copied(v))
		sums[i], _ = digest.Sum(v)
	}
	alike := 0
	for i, a := range all {
		for j, b := range all[:i] {
			same := value.Same(a, b)
			if same != (keys[i] == keys[j]) || same && sums[i] != sums[j] {
				t.Fatalf("%v and %v: same %v, keys %q and %q, sums %x and %x", a, b, same, keys[i], keys[j], sums[i], sums[j])
			}
			if same {
				alike++
			}
		}
	}
	if alike == 0 {
		t.Error("no two were the same")
	}
	for i, a := range mixed() {
		for j, b := range mixed() {
			if (keyed(t, a) == keyed(t, b)) != (i == j) {
				t.Errorf("%v and %v", a, b)
			}
		}
	}
	if keyed(t, math.NaN()) != keyed(t, math.NaN()) || keyed(t, api.List{math.NaN()}) != keyed(t, api.List{math.NaN()}) {
		t.Error("a NaN is not itself")
	}
}

// Memory: a value is not changed, and a key stays as it was when the value is written into.
func TestKeyTouchesNothing(t *testing.T) {
	v := sample.Twofold()
	key := keyed(t, v)
	sum, _ := digest.Sum(v)
	if !value.Same(v, sample.Twofold()) || !sample.RoomKept(v) {
		t.Error("Key or Sum changed what was handed in")
	}
	sample.Spoil(v)
	if again, _ := digest.Sum(sample.Twofold()); key != keyed(t, sample.Twofold()) || sum != again {
		t.Error("a key changed with its value")
	}
}
