package value_test

import (
	"strings"
	"testing"

	"tenon/api"
	"tenon/value"
)

// P1.1: Kind goes by the Go type and nothing else.
func TestKind(t *testing.T) {
	for _, x := range []struct {
		v    any
		want int
	}{
		{nil, 1}, {true, 2}, {false, 2}, {int64(7), 3}, {7.0, 4}, {"", 5}, {"a", 5}, {[]byte{1}, 6}, {[]byte{}, 6}, {[]byte(nil), 6}, {[]uint8{1}, 6},
		{api.Ref(0), 7}, {api.List{}, 8}, {api.List(nil), 8}, {api.Dict{}, 9}, {api.Dict(nil), 9}, {&api.Record{}, 10}, {record("a", 1), 10}, {nobody, 11}, {7, 0},
		{listRing(), 8}, {dictRing(), 9}, {recordRing(), 10}, {api.List{7}, 8}, // what lies within plays no part
	} {
		if n := value.Kind(x.v); n != x.want {
			t.Errorf("%T: kind %d, want %d", x.v, n, x.want)
		}
	}
	for _, v := range aliens() {
		if n := value.Kind(v); n != api.KAlien {
			t.Errorf("%T: kind %d, want none", v, n)
		}
	}
}

// P1.1: what can be, the limits themselves among it.
func TestCheckWhatCanBe(t *testing.T) {
	for i, v := range rich() {
		if n, e := value.Check(v); n != 0 || e != api.OK {
			t.Errorf("%d, %T: %d, %d", i, v, n, e)
		}
	}
	for _, name := range goodNames() {
		for _, v := range []any{record(name, 1), record("a", 1, field(name, nil)), api.Dict{field(name, nil)}} {
			if n, e := value.Check(v); n != 0 || e != api.OK {
				t.Errorf("%q in %T: %d, %d", name, v, n, e)
			}
		}
	}
}

func goodNames() []string {
	return []string{"a", "z", "a0", "a9", "a_", "zz", "a_b_9", "abcdefghijklmnopqrstuvwxyz", strings.Repeat("a", api.MaxName)}
}

func badNames() []string {
	return []string{"", "A", "0", "9a", "_", "_a", "aA", "a b", "a-b", "a.b", "a\x00", "\x00", " a", "a ", "é", "aé", "a\xff", "`", "{", "a`", "a{", "a/", "a:", "a^", "a@", "a[", strings.Repeat("a", api.MaxName+1)}
}

// P1.1: a name that is none, of a class and of a field.
func TestCheckNames(t *testing.T) {
	for _, name := range badNames() {
		for _, v := range []any{record(name, 1), record("a", 1, field(name, nil)), api.Dict{field(name, nil)}} {
			if n, e := value.Check(api.List{nil, v}); n != 2 || e != api.ErrName {
				t.Errorf("%q in %T: %d, %d", name, v, n, e)
			}
		}
	}
	for _, x := range [][2]string{{"a", "a"}, {"b", "a"}, {"aa", "a"}, {"a_", "a0"}, {"aa", "a_"}, {"ab", "aa"}} {
		d := api.Dict{field(x[0], nil), field(x[1], nil)}
		for _, v := range []any{d, record("a", 1, d...)} {
			if n, e := value.Check(v); n != 0 || e != api.ErrName {
				t.Errorf("%q in %T: %d, %d", x, v, n, e)
			}
		}
	}
	late := append(fields(100), field("f10050", nil))
	if n, e := value.Check(late); n != 0 || e != api.ErrName {
		t.Error("a name that comes late:", n, e)
	}
}

// wrongValues is what can't be: each limit by one, each order of errors that the chapter gives.
func wrongValues() []wrongValue {
	long := strings.Repeat("x", api.MaxText+1)
	deep := api.MaxDepth + 1
	many := fields(api.MaxItems + 1)
	manyBad := append(fields(api.MaxItems), field("A", nil))
	alien := func() {}
	return []wrongValue{
		{"nothing", nobody, 0, api.ErrNil}, {"nothing in a list", api.List{nil, nobody}, 2, api.ErrNil}, {"nothing in a record", record("a", 1, field("a", nobody)), 1, api.ErrNil},
		{"alien", alien, 0, api.ErrKind}, {"alien within", api.List{true, api.List{7}}, 3, api.ErrKind}, {"alien in a dict", api.Dict{field("a", api.List{nil, nil}), field("b", 7)}, 4, api.ErrKind},

		{"long text", long, 0, api.ErrLong}, {"long bytes", []byte(long), 0, api.ErrLong}, {"long text within", api.List{"", long}, 2, api.ErrLong},
		{"long list", items(api.MaxItems + 1), 0, api.ErrLong}, {"long dict", many, 0, api.ErrLong}, {"long record", record("a", 1, many...), 0, api.ErrLong},
		{"version 0", record("a", 0), 0, api.ErrArg}, {"version below 0", record("a", -1), 0, api.ErrArg}, {"version beyond", record("a", api.MaxVersion+1), 0, api.ErrArg},

		{"deep nil", within(deep, nil), 64, api.ErrLong}, {"deep list", within(deep, api.List{}), 64, api.ErrLong}, {"deeper", within(deep+20, nil), 64, api.ErrLong}, {"deep in fields", withinFields(deep, nil), 64, api.ErrLong},
		{"deep nothing", within(deep, nobody), 64, api.ErrNil}, {"deep alien", within(deep, 7), 64, api.ErrKind},
		{"deep bad class", within(deep, record("A", 1)), 64, api.ErrLong}, {"deep bad version", within(deep, record("a", 0)), 64, api.ErrLong}, {"deep bad field", within(deep, api.Dict{field("A", nil)}), 64, api.ErrLong},
		{"behind the deepest", api.List{within(api.MaxDepth-1, nil), 7}, 64, api.ErrKind},

		{"many nil", numbered(api.MaxNodes, nil), 16384, api.ErrLong}, {"many nothing", numbered(api.MaxNodes, nobody), 16384, api.ErrNil}, {"many alien", numbered(api.MaxNodes, 7), 16384, api.ErrKind},
		{"many bad class", numbered(api.MaxNodes, record("A", 1)), 16384, api.ErrLong}, {"many and more", numbered(api.MaxNodes+2, nil), 16384, api.ErrLong}, {"last bad class", numbered(api.MaxNodes-1, record("A", 1)), 16383, api.ErrName},
		{"doubled", doubled(40), 16384, api.ErrLong},

		{"class ahead of version, fields, names", record("A", 0, manyBad...), 0, api.ErrName}, {"version ahead of fields, names", record("a", 0, manyBad...), 0, api.ErrArg},
		{"fields ahead of names", record("a", 1, manyBad...), 0, api.ErrLong}, {"names", record("a", 1, field("A", nil)), 0, api.ErrName},
		{"fields ahead of names, dict", manyBad, 0, api.ErrLong}, {"version ahead of names", record("a", 1001, field("A", nil)), 0, api.ErrArg},
		{"the dict ahead of its values", api.Dict{field("a", 7), field("a", nil)}, 0, api.ErrName}, {"the record ahead of its values", record("", 1, field("a", nobody)), 0, api.ErrName},
		{"the list ahead of its values", append(api.List{7}, items(api.MaxItems)...), 0, api.ErrLong},
		{"the first of two values", api.List{nobody, 7}, 1, api.ErrNil}, {"the first of two other values", api.List{7, nobody}, 1, api.ErrKind}, {"within ahead of behind", api.List{api.List{nil, long}, 7}, 3, api.ErrLong},
		{"behind what can be", api.List{api.Dict{field("a", record("a", 1, field("a", nil)))}, record("a", 0)}, 4, api.ErrArg},

		{"list ring", listRing(), 64, api.ErrLong}, {"dict ring", dictRing(), 64, api.ErrLong}, {"record ring", recordRing(), 64, api.ErrLong}, {"ring of three", ringOfThree(), 64, api.ErrLong}, {"ring with a part ahead", api.List{nil, listRing()}, 65, api.ErrLong},
	}
}

// P1.1: the first part that is wrong, and the first of its errors.
func TestCheckWrong(t *testing.T) {
	for _, x := range wrongValues() {
		if n, e := value.Check(x.v); n != x.at || e != x.why {
			t.Errorf("%s: %d, %d, want %d, %d", x.name, n, e, x.at, x.why)
		}
	}
	for _, v := range aliens() {
		if n, e := value.Check(v); n != 0 || e != api.ErrKind {
			t.Errorf("%T: %d, %d", v, n, e)
		}
		if n, e := value.Check(record("a", 1, field("a", v))); n != 1 || e != api.ErrKind {
			t.Errorf("%T in a record: %d, %d", v, n, e)
		}
	}
}

// P1.1: rings in which other parts stand are numbered as any value's.
func TestCheckRings(t *testing.T) {
	r := record("r", 1)
	r.Fields = api.Dict{field("a", int64(1)), field("b", r), field("c", r)}
	if n, e := value.Check(r); n != 127 || e != api.ErrLong {
		t.Error("a field ahead of the ring:", n, e)
	}
	l := items(api.MaxItems)
	for i := range l {
		l[i] = l
	}
	if n, e := value.Check(l); n != 64 || e != api.ErrLong {
		t.Error("a list full of itself:", n, e)
	}
	l = items(api.MaxItems)
	l[api.MaxItems-1] = l
	if n, e := value.Check(l); n != api.MaxNodes || e != api.ErrLong {
		t.Error("a list with itself at its end:", n, e)
	}
}
