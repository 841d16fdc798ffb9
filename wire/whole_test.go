package wire_test

import (
	"bytes"
	"math/rand"
	"slices"
	"testing"

	"tenon/api"
	"tenon/sample"
	"tenon/value"
	"tenon/wire"
)

// P3.3: values one behind the other.
func TestAll(t *testing.T) {
	if l, n, e := wire.All(octets("01 0200")); len(l) != 2 || l[0] != nil || l[1] != false || n != 3 || e != api.OK {
		t.Error(l, n, e)
	}
	for _, none := range [][]byte{nil, {}} {
		if l, n, e := wire.All(none); len(l) != 0 || n != 0 || e != api.OK {
			t.Error("of no bytes:", l, n, e)
		}
	}
	var b []byte
	all := values()
	for _, v := range all {
		b = append(b, coded(v)...)
	}
	l, n, e := wire.All(b)
	if n != len(b) || e != api.OK || len(l) != len(all) {
		t.Fatal(len(l), n, e)
	}
	for i := range l {
		if !value.Same(l[i], all[i]) {
			t.Fatal(i, l[i])
		}
	}
	many := bytes.Repeat([]byte{1}, 3*api.MaxNodes)
	if l, n, e := wire.All(many); len(l) != len(many) || n != len(many) || e != api.OK {
		t.Error("there is no limit to how many:", len(l), n, e)
	}
}

// P3.3: an error of one of them, at its place from the beginning; none of the others is told.
func TestAllWrong(t *testing.T) {
	for _, x := range []fault{
		bad("00", 0, api.ErrTag), bad("01 00", 1, api.ErrTag), bad("0200 0202 00", 3, api.ErrTag), bad("0801 01 038000", 4, api.ErrLeast), bad("01 01 09 01 01 41 01", 2, api.ErrName), bad("01 08 01 09 01 01 41 01", 3, api.ErrName), bad("01 05 818004 01", 1, api.ErrLong), bad("01 0a 01 70 00 00 01", 1, api.ErrArg), bad("01 0801", 3, api.ErrShort), bad("01 0501", 3, api.ErrShort), bad("01*20 02", 21, api.ErrShort), bad("01 0801*64 01", 129, api.ErrLong),
	} {
		if l, at, e := wire.All(x.b); len(l) != 0 || at != x.at || e != x.why {
			t.Errorf("%s: %v, %d, %d", short(x.b), l, at, e)
		}
	}
}

// P3.3: how many bytes the first value has; 0, not the place, with an error.
func TestSkip(t *testing.T) {
	for _, v := range values() {
		b := coded(v)
		for _, behind := range []string{"", "00", "01", "ff*20"} {
			if n, e := wire.Skip(joined(b, octets(behind))); n != len(b) || e != api.OK {
				t.Fatalf("%s: %d, %d", short(b), n, e)
			}
		}
	}
	for _, x := range []fault{bad("02 02", 0, api.ErrTag), bad("08 02 01", 0, api.ErrShort), bad("03 80 00", 0, api.ErrLeast), bad("08 01 09 01 01 41 01", 0, api.ErrName), bad("0801 0a 01 70 00", 0, api.ErrArg), bad("0801*64 01", 0, api.ErrLong)} {
		if n, e := wire.Skip(x.b); n != 0 || e != x.why {
			t.Errorf("%s: %d, %d", short(x.b), n, e)
		}
	}
}

// P3.3: what Skip goes past it does not make: a list of bytes takes no room.
func TestSkipMakesNothing(t *testing.T) {
	b := coded(sample.Record("p", 1, sample.Field("a", api.List{"text", []byte("bytes"), int64(1 << 40), 1.5, api.Dict{sample.Field("b", api.Ref(1<<40))}})))
	if n := testing.AllocsPerRun(100, func() { wire.Skip(b) }); n > 1 {
		t.Error("pieces of memory:", n)
	}
}

// P3.4: there and back, whatever stands behind.
func TestThereAndBack(t *testing.T) {
	for _, v := range values() {
		b := encoded(t, v)
		for c := range 256 {
			if len(b) > 1000 && c%85 != 0 {
				continue // for the sake of time
			}
			if got, n, e := wire.Decode(append(b, byte(c))); n != len(b) || e != api.OK || !value.Same(got, v) {
				t.Fatalf("%s and %x: %v, %d, %d", short(b), c, got, n, e)
			}
		}
		for _, behind := range [][]byte{nil, b, octets("ff*30")} {
			if got, n, e := wire.Decode(joined(b, behind)); n != len(b) || e != api.OK || !value.Same(got, v) {
				t.Fatalf("%s and %s: %v, %d, %d", short(b), short(behind), got, n, e)
			}
		}
	}
}

// P3.5: two values are the same just if their bytes are.
func TestOneForm(t *testing.T) {
	rising := sample.Rising()
	for i, v := range rising {
		for j, w := range rising {
			if bytes.Equal(encoded(t, v), encoded(t, w)) != (i == j) {
				t.Errorf("%v, %v", v, w)
			}
		}
	}
	of := map[string]any{}
	for _, v := range values() {
		b := encoded(t, v)
		if other, there := of[string(b)]; there && !value.Same(v, other) {
			t.Errorf("%T and %T: %s", v, other, short(b))
		}
		of[string(b)] = v
		if c, e := value.Copy(v); e != api.OK || !bytes.Equal(encoded(t, c), b) {
			t.Errorf("the same, but not by its bytes: %s", short(b))
		}
	}
	for _, x := range [][2]any{{api.List(nil), api.List{}}, {api.Dict(nil), api.Dict{}}, {[]byte(nil), []byte{}}, {&api.Record{Class: "a", Version: 1}, sample.Record("a", 1, api.Dict{}...)}} {
		if !bytes.Equal(encoded(t, x[0]), encoded(t, x[1])) {
			t.Errorf("%T: nil and empty", x[0])
		}
	}
}

// P3.6: each beginning that is shorter is too short, and told at its end.
func TestBeginnings(t *testing.T) {
	for _, v := range values() {
		b := encoded(t, v)
		step := 1 + len(b)/500 // for the sake of time
		for n := 0; n < len(b); n++ {
			if n > 50 && n < len(b)-50 && n%step != 0 {
				continue
			}
			if got, at, e := wire.Decode(b[:n]); got != nil || at != n || e != api.ErrShort {
				t.Fatalf("%s, the first %d: %v, %d, %d", short(b), n, got, at, e)
			}
			if skipped, e := wire.Skip(b[:n]); skipped != 0 || e != api.ErrShort {
				t.Fatalf("%s, the first %d: %d, %d", short(b), n, skipped, e)
			}
			if l, at, e := wire.All(b[:n]); n > 0 && (len(l) != 0 || at != n || e != api.ErrShort) {
				t.Fatalf("%s, the first %d: %v, %d, %d", short(b), n, l, at, e)
			}
		}
	}
}

// P3.6: no value's bytes are the beginning of another one's. (Of rising bytes, one with which others begin stands right ahead of one of these.)
func TestNoneBeginsAnother(t *testing.T) {
	var all [][]byte
	for _, v := range values() {
		all = append(all, encoded(t, v))
	}
	slices.SortFunc(all, bytes.Compare)
	all = slices.CompactFunc(all, bytes.Equal)
	for i := 1; i < len(all); i++ {
		if bytes.HasPrefix(all[i], all[i-1]) {
			t.Errorf("%s begins with %s", short(all[i]), short(all[i-1]))
		}
	}
}

// mustBeSound holds together what is told of any bytes, and tells whether they begin with a value.
func mustBeSound(t *testing.T, b []byte) bool {
	t.Helper()
	kept := bytes.Clone(b)
	v, at, e := wire.Decode(b)
	n, f := wire.Skip(b)
	if !bytes.Equal(b, kept) {
		t.Fatalf("%s was changed", short(kept))
	}
	if f != e || n != 0 && e != api.OK || n != at && e == api.OK {
		t.Fatalf("%s: %d, %d; skipped %d, %d", short(b), at, e, n, f)
	}
	switch e {
	case api.OK:
		if back, check := wire.Encode(v); check != api.OK || !bytes.Equal(back, b[:n]) { // P3.5: the bytes that it took
			t.Fatalf("%s: %v, %d, and back %s, %d", short(b), v, n, short(back), check)
		}
		return true
	case api.ErrShort, api.ErrTag, api.ErrLeast, api.ErrLong, api.ErrName, api.ErrArg:
		if v != nil || at < 0 || at > len(b) || (e == api.ErrShort) != (at == len(b)) {
			t.Fatalf("%s: %v, %d, %d", short(b), v, at, e)
		}
	default:
		t.Fatalf("%s: %d", short(b), e)
	}
	for i := range b { // as soon as a byte shows it: what is shorter is too short, or told alike
		if _, before, g := wire.Decode(b[:i]); (g != api.ErrShort || before != i) && (g != e || before != at) {
			t.Fatalf("%s: %d, %d, but the first %d: %d, %d", short(b), at, e, i, before, g)
		}
	}
	return false
}

// P3.2, P3.5: whatever the bytes are: no panic, one form, and all readers tell the same of them.
func TestAnyBytes(t *testing.T) {
	r := rand.New(rand.NewSource(8))
	whole := 0
	for range 100000 {
		b := make([]byte, r.Intn(12))
		for i := range b {
			b[i] = byte(r.Intn(12))
			if r.Intn(4) == 0 {
				b[i] = byte(r.Intn(256))
			}
		}
		if mustBeSound(t, b) {
			whole++
		}
	}
	for range 30000 {
		if mustBeSound(t, spoiled(r, coded(sample.Anything(r.Uint64, 3)))) {
			whole++
		}
	}
	if whole < 10000 {
		t.Error("few bytes were a value's:", whole)
	}
}

// spoiled is bytes with one of them changed, gone, or come in.
func spoiled(r *rand.Rand, b []byte) []byte {
	at := r.Intn(len(b))
	switch r.Intn(4) {
	case 0:
		b[at] = byte(r.Intn(256))
	case 1:
		b[at] ^= 1 << r.Intn(8)
	case 2:
		b = slices.Delete(b, at, at+1)
	case 3:
		b = slices.Insert(b, at, byte(r.Intn(12)))
	}
	return b
}

// Memory: an answer shares nothing with the bytes, with another answer, nor one of its parts with another one.
func TestAnswersShareNothing(t *testing.T) {
	one := api.List{[]byte{1, 2}, "ab", sample.Record("c", 1, sample.Field("d", api.List{[]byte{3}}))}
	b := coded(api.List{one, one})
	want, _ := value.Copy(one)
	v, _, _ := wire.Decode(b)
	w, _, _ := wire.Decode(b)
	all, _, _ := wire.All(joined(b, b))
	for i := range b {
		b[i] = 0xee
	}
	spoilt := []api.List{v.(api.List)[0].(api.List), all[0].(api.List)[0].(api.List)}
	for _, l := range spoilt {
		octets := l[0].([]byte)
		octets = octets[:cap(octets)]
		for i := range octets {
			octets[i] = 0xee
		}
		x := l[2].(*api.Record)
		x.Class, x.Version = "changed", 9
		x.Fields[0].Value.(api.List)[0] = nil
		x.Fields[0].Name = "changed"
		l[1] = nil
		_ = append(l, "more")
	}
	for i, other := range []any{v.(api.List)[1], w.(api.List)[0], w.(api.List)[1], all[0].(api.List)[1], all[1].(api.List)[0], all[1].(api.List)[1]} {
		if !value.Same(other, want) {
			t.Errorf("%d: %v", i, other)
		}
	}
}
