package wire_test

import (
	"math"
	"strings"
	"testing"

	"tenon/api"
	"tenon/sample"
	"tenon/value"
	"tenon/wire"
)

// fault is bytes that begin with no value's, at which place and why.
type fault struct {
	b   []byte
	at  int
	why api.Errno
}

// bad is a fault by its bytes' digits.
func bad(digits string, at int, why api.Errno) fault { return fault{octets(digits), at, why} }

// mustRefuse holds bytes against all three readers, also with values ahead of them; and, since the first error in their order is told, with whatever behind them, but where they are too short.
func mustRefuse(t *testing.T, all ...fault) {
	t.Helper()
	for _, x := range all {
		behind := [][]byte{nil, {0}, {1}, {255}, octets("01 61 01"), octets("ff*9 02")}
		if x.why == api.ErrShort {
			behind = behind[:1]
			if x.at != len(x.b) {
				t.Errorf("%s: too short, but not at the end: %d", short(x.b), x.at)
			}
		}
		for _, more := range behind {
			b := joined(x.b, more)
			if v, at, e := wire.Decode(b); v != nil || at != x.at || e != x.why {
				t.Errorf("Decode(%s): %v, %d, %d, want %d, %d", short(b), v, at, e, x.at, x.why)
			}
			if n, e := wire.Skip(b); n != 0 || e != x.why {
				t.Errorf("Skip(%s): %d, %d, want %d", short(b), n, e, x.why)
			}
			if l, at, e := wire.All(joined(octets("01 0201 08 02 01 01"), b)); len(b) > 0 && (len(l) != 0 || at != 7+x.at || e != x.why) {
				t.Errorf("All(.. %s): %v, %d, %d, want %d, %d", short(b), l, at, e, 7+x.at, x.why)
			}
		}
	}
}

// mustRefuseWithin does likewise, and lays the bytes into a list, a dict and a record beside.
func mustRefuseWithin(t *testing.T, all ...fault) {
	t.Helper()
	mustRefuse(t, all...)
	for _, x := range all {
		for _, ahead := range [][]byte{octets("08 02 01"), octets("09 01 01 61"), octets("0a 01 63 05 02 01 61 01 01 62"), octets("08 01 09 02 01 61 0200 01 62")} {
			mustRefuse(t, fault{joined(ahead, x.b), len(ahead) + x.at, x.why})
		}
	}
}

// mustRead holds bytes against all three readers: they are that value's.
func mustRead(t *testing.T, b []byte, want any) {
	t.Helper()
	if v, n, e := wire.Decode(b); n != len(b) || e != api.OK || !value.Same(v, want) {
		t.Errorf("Decode(%s): %v, %d, %d", short(b), v, n, e)
	}
	if n, e := wire.Skip(b); n != len(b) || e != api.OK {
		t.Errorf("Skip(%s): %d, %d", short(b), n, e)
	}
	if l, n, e := wire.All(b); len(l) != 1 || n != len(b) || e != api.OK || !value.Same(l[0], want) {
		t.Errorf("All(%s): %v, %d, %d", short(b), l, n, e)
	}
}

// P3.2: the bytes of each kind.
func TestDecode(t *testing.T) {
	for _, x := range plain() {
		mustRead(t, x.b, x.v)
		if v, _, _ := wire.Decode(x.b); value.Kind(v) != value.Kind(x.v) {
			t.Errorf("%s: of another kind", short(x.b))
		}
	}
	for _, v := range values() {
		mustRead(t, coded(v), v)
	}
}

// P3.2: no bytes at all, or none of a value that must come.
func TestNoBytes(t *testing.T) {
	mustRefuse(t, fault{nil, 0, api.ErrShort}, fault{[]byte{}, 0, api.ErrShort})
	mustRefuseWithin(t, bad("08 01", 2, api.ErrShort), bad("08 02 01", 3, api.ErrShort), bad("09 01 01 61", 4, api.ErrShort), bad("0a 01 61 01 01 01 61", 7, api.ErrShort), bad("05 03 61", 3, api.ErrShort), bad("04 00*7", 8, api.ErrShort), bad("02", 1, api.ErrShort), bad("06 808004 00*65535", 65539, api.ErrShort))
}

// P3.2: a byte that begins no value, and a bool's that is neither of the two.
func TestTags(t *testing.T) {
	for c := range 256 {
		if c < 1 || c > 10 {
			mustRefuseWithin(t, fault{[]byte{byte(c)}, 0, api.ErrTag})
		}
		if c > 1 {
			mustRefuseWithin(t, fault{[]byte{2, byte(c)}, 1, api.ErrTag})
		}
	}
	mustRefuse(t, bad("02 02", 1, api.ErrTag), bad("00", 0, api.ErrTag), bad("0b", 0, api.ErrTag), bad("08 02 02 01 00", 4, api.ErrTag), bad("08 02 02 02 00", 3, api.ErrTag))
}

// numberPlaces is bytes behind each of which a number must come.
func numberPlaces() [][]byte {
	return [][]byte{octets("03"), octets("05"), octets("06"), octets("07"), octets("08"), octets("09"), octets("0a"), octets("09 01"), octets("09 02 01 61 01"), octets("0a 01 70"), octets("0a 01 70 01"), octets("0a 01 70 01 01"), octets("0a 01 70 01 02 01 61 01")}
}

// P3.2: numbers that are not in their least form or above the greatest, wherever a number stands; told at their first byte, and as soon as a byte shows it.
func TestLeast(t *testing.T) {
	for _, ahead := range numberPlaces() {
		n := len(ahead)
		for _, digits := range []string{"80 00", "81 00", "ff 00", "80 80 00", "ff 80 00", "80*8 00", "ff*8 00", "80*9 00", "ff*9 00", "ff*9 02", "ff*9 03", "80*9 02", "80*9 10", "ff*9 7f", "ff*9 80", "ff*9 81", "80*9 80", "80*9 ff", "ff*9 ff"} {
			number := octets(digits)
			mustRefuseWithin(t, fault{joined(ahead, number), n, api.ErrLeast})
			for i := range number {
				b := joined(ahead, number[:i])
				mustRefuse(t, fault{b, len(b), api.ErrShort})
			}
		}
	}
	mustRefuse(t, bad("03 80 00", 1, api.ErrLeast))
}

// P3.2: the greatest numbers, in as many bytes as a number may have, and nought, which is the one with a last byte of 0.
func TestGreatestNumbers(t *testing.T) {
	mustRead(t, octets("07 ff*9 01"), api.Ref(math.MaxUint64))
	mustRead(t, octets("03 ff*9 01"), int64(math.MinInt64))
	mustRead(t, octets("03 fe ff*8 01"), int64(math.MaxInt64))
	mustRead(t, octets("07 80*9 01"), api.Ref(1<<63))
	mustRead(t, octets("07 ff*8 7f"), api.Ref(1<<63-1))
	mustRead(t, octets("07 00"), api.Ref(0))
	mustRead(t, octets("03 00"), int64(0))
}

// beyond are numbers above a limit: by one, and those that would be within it if they were cut to fewer bits.
func beyond(most uint64) []uint64 {
	return []uint64{most + 1, most + 2, 1 << 31, 1<<32 | 1, 1 << 32, 1<<63 - 1, 1 << 63, 1<<63 | 1, math.MaxUint64 - 1, math.MaxUint64}
}

// P3.2: how many bytes, or values: told behind that number, at the value's first byte, ahead of all that is missing.
func TestTooMany(t *testing.T) {
	for _, n := range beyond(api.MaxText) {
		mustRefuseWithin(t, fault{joined(octets("05"), number(n)), 0, api.ErrLong}, fault{joined(octets("06"), number(n)), 0, api.ErrLong})
	}
	for _, n := range beyond(api.MaxItems) {
		mustRefuseWithin(t, fault{joined(octets("08"), number(n)), 0, api.ErrLong}, fault{joined(octets("09"), number(n)), 0, api.ErrLong}, fault{joined(octets("0a 01 70 01"), number(n)), 0, api.ErrLong})
	}
	mustRefuse(t, bad("05 818004", 0, api.ErrLong), bad("05 8180", 3, api.ErrShort), bad("05 808004", 4, api.ErrShort), bad("08 8120", 0, api.ErrLong), bad("08 8020", 3, api.ErrShort), bad("09 8020", 3, api.ErrShort), bad("0a 01 70 01 8020", 6, api.ErrShort), bad("08 81", 2, api.ErrShort), bad("05 818004 61*65537", 0, api.ErrLong), bad("08 8120 01*4097", 0, api.ErrLong))
}

// P3.2: a class's or field's name: how long it is, behind that number; which bytes it has, behind these; always at the value's first byte.
func TestNames(t *testing.T) {
	heads := [][]byte{octets("09 01"), octets("0a"), octets("0a 01 70 01 01"), octets("09 02 01 61 01"), octets("0a 01 70 01 02 01 61 02 00")}
	for _, head := range heads {
		for _, n := range append(beyond(api.MaxName), 0) {
			mustRefuseWithin(t, fault{joined(head, number(n)), 0, api.ErrName})
		}
		for _, name := range sample.BadNames() {
			mustRefuse(t, fault{joined(head, words(name)), 0, api.ErrName})
			if n := len(name); n > 0 && n <= api.MaxName {
				b := joined(head, number(uint64(n)), []byte(name[:n-1]))
				mustRefuse(t, fault{b, len(b), api.ErrShort})
			}
		}
	}
	for _, name := range sample.GoodNames() {
		mustRead(t, joined(octets("09 01"), words(name), octets("01")), api.Dict{sample.Field(name, nil)})
		mustRead(t, joined(octets("0a"), words(name), octets("01 00")), sample.Record(name, 1))
		mustRead(t, joined(octets("0a 01 70 01 01"), words(name), octets("01")), sample.Record("p", 1, sample.Field(name, nil)))
	}
	mustRefuse(t, bad("09 01 01 41 01", 0, api.ErrName), bad("08 01 09 01 01 41 01", 2, api.ErrName), bad("0a 00", 0, api.ErrName), bad("0a 21", 0, api.ErrName), bad("0a 20 61*31", 33, api.ErrShort), bad("0a 20 61*31 41", 0, api.ErrName), bad("0a 01 41", 0, api.ErrName), bad("0a 02 41", 3, api.ErrShort))
}

// P3.2: names that do not rise.
func TestNamesRise(t *testing.T) {
	for _, x := range [][2]string{{"a", "a"}, {"b", "a"}, {"ab", "a"}, {"a_", "a0"}, {"aa", "a_"}, {"aa", "a9"}, {"b", "aa"}, {"z", "y"}, {strings.Repeat("a", 32), strings.Repeat("a", 31)}, {strings.Repeat("a", 32), strings.Repeat("a", 32)}} {
		for _, head := range []string{"09 02", "0a 01 70 01 02", "09 03", "0a 01 70 01 8020"} {
			mustRefuseWithin(t, fault{joined(octets(head), words(x[0]), octets("08 01 01"), words(x[1])), 0, api.ErrName})
		}
		if x[0] != x[1] {
			mustRead(t, joined(octets("09 02"), words(x[1]), octets("01"), words(x[0]), octets("01")), api.Dict{sample.Field(x[1], nil), sample.Field(x[0], nil)})
		}
	}
	mustRefuse(t, bad("09 03 0161 01 0163 01 0162", 0, api.ErrName), bad("09 03 0161 01 0163 01 01", 9, api.ErrShort))
	mustRead(t, octets("09 02 0162 09 01 0161 01 0163 09 01 0161 01"), api.Dict{sample.Field("b", api.Dict{sample.Field("a", nil)}), sample.Field("c", api.Dict{sample.Field("a", nil)})})
}

// P3.2: versions: each one that can be, and those out of the range.
func TestVersions(t *testing.T) {
	for n := 1; n <= api.MaxVersion; n++ {
		mustRead(t, joined(octets("0a 01 70"), number(uint64(n)), octets("00")), sample.Record("p", n))
	}
	for _, n := range append(beyond(api.MaxVersion), 0) {
		mustRefuseWithin(t, fault{joined(octets("0a 01 70"), number(n)), 0, api.ErrArg})
	}
	mustRefuse(t, bad("0a 01 70 00 00", 0, api.ErrArg), bad("0a 01 70 e907", 0, api.ErrArg), bad("0a 01 70 e9", 4, api.ErrShort), bad("0a 01 70 e807", 5, api.ErrShort), bad("0a 01 70", 3, api.ErrShort))
}

// P3.2: how deep a value may lie: told at the first byte of the one that lies too deep, ahead of what that byte is, but behind that there is none.
func TestTooDeep(t *testing.T) {
	mustRead(t, octets("0801*63 0800"), sample.Within(64, api.List{}))
	mustRead(t, octets("0801*63 0a 01 70 01 00"), sample.Within(64, sample.Record("p", 1)))
	mustRead(t, octets("08 03 01 0801*62 01 0201"), api.List{nil, sample.Within(63, nil), true})
	mustRead(t, coded(sample.WithinFields(64, "x")), sample.WithinFields(64, "x"))
	mustRefuse(t, bad("0801*64", 128, api.ErrShort), bad("0801*63", 126, api.ErrShort), bad("0801*100", 128, api.ErrLong))
	for c := range 256 {
		mustRefuse(t, fault{joined(octets("0801*64"), []byte{byte(c)}), 128, api.ErrLong})
		mustRefuse(t, fault{joined(octets("0801*63 09 01 0161"), []byte{byte(c)}), 130, api.ErrLong})
		mustRefuse(t, fault{joined(octets("0801*63 0a 01 70 01 02 0161"), []byte{byte(c)}), 133, api.ErrLong})
	}
	mustRefuse(t, bad("0801*63 09 01 0161", 130, api.ErrShort), bad("0801*63 09 01 0141", 126, api.ErrName), bad("0801*63 0a 01 70 00", 126, api.ErrArg), bad("0801*63 00", 126, api.ErrTag), bad("0801*63 08 8120", 126, api.ErrLong), bad("0801*63 08 8100", 127, api.ErrLeast), bad("08 02 0801*62 01 00", 127, api.ErrTag))
}

// manyAhead is bytes up to where the part of that number must come, in a list that goes on.
func manyAhead(parts int) []byte {
	var c coder
	c.value(sample.Numbered(parts, nil), 1)
	b := c.out[:c.starts[parts]]
	b[1]++ // one value more
	return b
}

// P3.2: how many parts there may be, likewise.
func TestTooManyParts(t *testing.T) {
	last := manyAhead(api.MaxNodes - 1)
	n := len(last)
	for c := range 256 {
		mustRefuse(t, fault{joined(last, []byte{1, byte(c)}), n + 1, api.ErrLong}, fault{joined(last, octets("0801"), []byte{byte(c)}), n + 2, api.ErrLong}, fault{joined(last, octets("09 01 0161"), []byte{byte(c)}), n + 4, api.ErrLong})
	}
	mustRefuse(t, fault{joined(last, octets("01")), n + 1, api.ErrShort}, fault{joined(last, octets("0801")), n + 2, api.ErrShort}, fault{joined(last, octets("00")), n, api.ErrTag}, fault{joined(last, octets("08")), n + 1, api.ErrShort}, fault{joined(last, octets("0901 00")), n, api.ErrName}, fault{joined(last, octets("0202")), n + 1, api.ErrTag}, fault{joined(last, octets("03 8000")), n + 1, api.ErrLeast}, fault{joined(last, octets("0a 01 70 00")), n, api.ErrArg}, fault{joined(last, octets("05 818004")), n, api.ErrLong})
	mustRead(t, coded(sample.Numbered(api.MaxNodes-1, sample.Record("p", 1))), sample.Numbered(api.MaxNodes-1, sample.Record("p", 1)))
	whole := coded(sample.Numbered(api.MaxNodes-1, nil))
	if l, at, e := wire.All(joined(whole, whole, whole)); len(l) != 3 || at != 3*len(whole) || e != api.OK {
		t.Error("each value's parts are counted by themselves:", len(l), at, e)
	}
}

// P3.2: of several errors the first in the order of the bytes, also where Check would go another way.
func TestFirstError(t *testing.T) {
	mustRefuse(t,
		bad("0a 01 41 00", 0, api.ErrName), bad("0a 01 61 00 8120", 0, api.ErrArg), bad("0a 01 61 01 8120 00", 0, api.ErrLong), bad("0a 01 61 8000", 3, api.ErrLeast), bad("0a 8100", 1, api.ErrLeast), bad("0a 01 41 8000", 0, api.ErrName), bad("0a a100", 1, api.ErrLeast),
		bad("09 02 0162 00 0161 01", 4, api.ErrTag), bad("09 02 0162 01 0161 00", 0, api.ErrName), bad("09 02 0161 0202 0141", 5, api.ErrTag), bad("09 02 0161 05818004 0141", 4, api.ErrLong), bad("09 02 0161 038000 00", 5, api.ErrLeast),
		bad("08 02 0900 0901 0141 00", 4, api.ErrName), bad("08 02 0a 01 61 00 00", 2, api.ErrArg), bad("08 02 00 8120", 2, api.ErrTag), bad("08 02 02 02 00", 3, api.ErrTag), bad("08 03 01 0a 01 61 01 01 00 00", 3, api.ErrName),
		bad("08 01 0a 01 70 01 02 0162 09 01 0161 01 0161", 2, api.ErrName), bad("08 01 0a 01 70 01 02 0162 09 02 0161 01 0161", 9, api.ErrName),
		bad("05 ff*9 02", 1, api.ErrLeast), bad("05 ff*9 01", 0, api.ErrLong), bad("05 81", 2, api.ErrShort), bad("08 80*9 00", 1, api.ErrLeast), bad("06 03 00 00", 4, api.ErrShort),
	)
}

// P3.2: what can't be, coded all the same, is refused for the reason that Check tells, at that part's first byte.
func TestWhatCantBe(t *testing.T) {
	for _, x := range sample.Wrongs() {
		var c coder
		c.value(x.V, 1)
		want := fault{c.out, c.starts[x.At], x.Why}
		switch {
		case x.Why == api.ErrNil || x.Why == api.ErrKind:
			want.why = api.ErrTag // coded as bytes that begin no value
			if len(c.starts) > api.MaxNodes || x.At == api.MaxDepth && x.Name != "behind the deepest" {
				want.why = api.ErrLong // which comes ahead of what the byte is
			}
		case x.Name == "the dict ahead of its values":
			want = fault{c.out, c.starts[1], api.ErrTag} // the value stands ahead of the second name
		}
		if v, at, e := wire.Decode(want.b); v != nil || at != want.at || e != want.why {
			t.Errorf("%s: %v, %d, %d, want %d, %d", x.Name, v, at, e, want.at, want.why)
		}
	}
}
