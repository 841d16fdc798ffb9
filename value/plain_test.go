package value_test

import (
	"math"
	"math/rand"
	"strings"
	"testing"

	"tenon/api"
	"tenon/sample"
	"tenon/value"
)

// sameTerm tells whether two terms are alike in all their fields, nil and empty lists being one, floats by their bits.
func sameTerm(a, b api.Term) bool {
	if a.Kind != b.Kind || a.Bool != b.Bool || a.Int != b.Int || math.Float64bits(a.Float) != math.Float64bits(b.Float) || a.Text != b.Text || string(a.Bytes) != string(b.Bytes) || a.Ref != b.Ref || a.Class != b.Class || a.Version != b.Version || len(a.List) != len(b.List) || len(a.Fields) != len(b.Fields) {
		return false
	}
	for i := range a.List {
		if !sameTerm(a.List[i], b.List[i]) {
			return false
		}
	}
	for i := range a.Fields {
		if a.Fields[i].Name != b.Fields[i].Name || !sameTerm(a.Fields[i].Value, b.Fields[i].Value) {
			return false
		}
	}
	return true
}

// termOf says any value as a term, also one that can't be, as long as it holds no rings.
func termOf(v any) api.Term {
	t := api.Term{Kind: value.Kind(v)}
	switch x := v.(type) {
	case bool:
		t.Bool = x
	case int64:
		t.Int = x
	case float64:
		t.Float = x
	case string:
		t.Text = x
	case []byte:
		t.Bytes = x
	case api.Ref:
		t.Ref = x
	case api.List:
		for _, y := range x {
			t.List = append(t.List, termOf(y))
		}
	case api.Dict:
		for _, f := range x {
			t.Fields = append(t.Fields, entry(f.Name, termOf(f.Value)))
		}
	case *api.Record:
		if x != nil {
			t = termOf(x.Fields)
			t.Kind, t.Class, t.Version = api.KRecord, x.Class, x.Version
		}
	}
	return t
}

// rubbish is a term none of whose fields could stand where it plays a part.
var rubbish = api.Term{Bool: true, Int: 5, Float: math.NaN(), Text: strings.Repeat("x", api.MaxText+1), Bytes: make([]byte, api.MaxText+1), Ref: 6, List: make([]api.Term, api.MaxItems+1), Fields: []api.Entry{entry("A", api.Term{})}, Class: "A", Version: -1}

// litter puts rubbish into all of a term's fields but those of its kind.
func litter(t api.Term) api.Term { return sample.Littered(t, rubbish) }

// P1.2: of each kind its own fields and no others.
func TestOfAndPlain(t *testing.T) {
	for i, x := range []struct {
		t api.Term
		v any
	}{
		{api.Term{Kind: api.KNil}, nil}, {api.Term{Kind: api.KBool, Bool: true}, true}, {api.Term{Kind: api.KBool}, false}, {api.Term{Kind: api.KInt, Int: -7}, int64(-7)}, {api.Term{Kind: api.KFloat, Float: 1.5}, 1.5}, {api.Term{Kind: api.KFloat, Float: sample.MinusZero()}, sample.MinusZero()},
		{api.Term{Kind: api.KFloat, Float: sample.Bits(0xfff8000000000123)}, sample.Bits(0xfff8000000000123)}, {api.Term{Kind: api.KText, Text: "a\xff"}, "a\xff"}, {api.Term{Kind: api.KBytes, Bytes: []byte{1, 2}}, []byte{1, 2}}, {api.Term{Kind: api.KBytes}, []byte{}}, {api.Term{Kind: api.KRef, Ref: 9}, api.Ref(9)},
		{api.Term{Kind: api.KList}, api.List{}}, {api.Term{Kind: api.KList, List: []api.Term{{Kind: api.KNil}, {Kind: api.KInt, Int: 1}}}, api.List{nil, int64(1)}}, {api.Term{Kind: api.KDict}, api.Dict{}}, {api.Term{Kind: api.KDict, Fields: []api.Entry{entry("a", api.Term{Kind: api.KNil})}}, api.Dict{sample.Field("a", nil)}},
		{api.Term{Kind: api.KRecord, Class: "c", Version: 2}, sample.Record("c", 2)}, {api.Term{Kind: api.KRecord, Class: "c", Version: 2, Fields: []api.Entry{entry("a", api.Term{Kind: api.KText, Text: "b"})}}, sample.Record("c", 2, sample.Field("a", "b"))},
	} {
		for _, from := range []api.Term{x.t, litter(x.t)} {
			if v, e := value.Of(from); e != api.OK || !value.Same(v, x.v) || value.Kind(v) != x.t.Kind {
				t.Errorf("%d: Of: %v, %d", i, v, e)
			}
		}
		if p, e := value.Plain(x.v); e != api.OK || !sameTerm(p, x.t) {
			t.Errorf("%d: Plain: %v, %d", i, p, e)
		}
	}
}

// P1.2: terms are wrong where values are, with the same errors; so Of is held against what Check says of the value.
func TestOfWrong(t *testing.T) {
	for _, x := range sample.Wrongs() {
		if strings.Contains(x.Name, "ring") || x.Name == "doubled" {
			continue
		}
		for _, from := range []api.Term{termOf(x.V), litter(termOf(x.V))} {
			if v, e := value.Of(from); v != nil || e != x.Why {
				t.Errorf("%s: %v, %d, want %d", x.Name, v, e, x.Why)
			}
		}
	}
	for _, x := range []struct {
		kind int
		why  api.Errno
	}{{api.KNothing, api.ErrNil}, {api.KAlien, api.ErrKind}, {12, api.ErrKind}, {-1, api.ErrKind}, {math.MaxInt, api.ErrKind}, {math.MinInt, api.ErrKind}} {
		term := api.Term{Kind: x.kind, Class: "a", Version: 1}
		if v, e := value.Of(term); v != nil || e != x.why {
			t.Error(x.kind, v, e)
		}
		if v, e := value.Of(api.Term{Kind: api.KDict, Fields: []api.Entry{entry("a", term)}}); v != nil || e != x.why {
			t.Error("within,", x.kind, v, e)
		}
	}
	for _, name := range sample.BadNames() {
		for _, term := range []api.Term{{Kind: api.KRecord, Class: name, Version: 1}, {Kind: api.KDict, Fields: []api.Entry{entry(name, api.Term{Kind: api.KNil})}}} {
			if v, e := value.Of(term); v != nil || e != api.ErrName {
				t.Errorf("%q: %v, %d", name, v, e)
			}
		}
	}
	for _, term := range []api.Term{termRing(), entryRing()} {
		if v, e := value.Of(term); v != nil || e != api.ErrLong {
			t.Error("a term that holds itself:", v, e)
		}
	}
	two := api.Term{Kind: api.KList}
	for range 40 {
		two = api.Term{Kind: api.KList, List: []api.Term{two, two}}
	}
	if v, e := value.Of(two); v != nil || e != api.ErrLong {
		t.Error("a term of too many parts:", v, e)
	}
}

// P1.2: with Check's error the zero term.
func TestPlainWrong(t *testing.T) {
	for _, x := range sample.Wrongs() {
		if p, e := value.Plain(x.V); e != x.Why || !sameTerm(p, api.Term{}) {
			t.Errorf("%s: %d, want %d", x.Name, e, x.Why)
		}
	}
}

// P1.6: there and back.
func TestThereAndBack(t *testing.T) {
	r := rand.New(rand.NewSource(6))
	all := sample.Rich()
	for range 2000 {
		all = append(all, sample.Anyhow(r.Intn, 5))
	}
	for i, v := range all {
		p, e := value.Plain(v)
		if e != api.OK || !sameTerm(p, termOf(v)) {
			t.Fatalf("%d: Plain: %d", i, e)
		}
		for _, from := range []api.Term{p, litter(p)} {
			back, e := value.Of(from)
			if e != api.OK || !value.Same(back, v) {
				t.Fatalf("%d: Of(Plain): %d", i, e)
			}
			again, e := value.Plain(back)
			if e != api.OK || !sameTerm(again, p) {
				t.Fatalf("%d: Plain(Of): %d", i, e)
			}
		}
	}
}

// Memory: neither Of nor Plain shares lists with its argument, or within its answer.
func TestTermsShareNothing(t *testing.T) {
	b := []byte{1, 2, 3}
	parts := []api.Term{{Kind: api.KBytes, Bytes: b[:2]}, {Kind: api.KBytes, Bytes: b[:2]}}
	entries := []api.Entry{entry("a", api.Term{Kind: api.KList, List: parts}), entry("b", api.Term{Kind: api.KList, List: parts})}
	v, e := value.Of(api.Term{Kind: api.KRecord, Class: "c", Version: 1, Fields: entries})
	want := sample.Record("c", 1, sample.Field("a", api.List{[]byte{1, 2}, []byte{1, 2}}), sample.Field("b", api.List{[]byte{1, 2}, []byte{1, 2}}))
	if e != api.OK || !value.Same(v, want) {
		t.Fatal(e)
	}
	p, e := value.Plain(v)
	if e != api.OK {
		t.Fatal(e)
	}
	list := v.(*api.Record).Fields[0].Value.(api.List)
	spoil(list[0].([]byte))
	if b[0] != 1 || b[2] != 3 || p.Fields[0].Value.List[0].Bytes[0] != 1 || !value.Same(list[1], []byte{1, 2}) {
		t.Error("bytes of the value are shared")
	}
	list[0], list[1] = nil, nil
	if !value.Same(v.(*api.Record).Fields[1].Value, api.List{[]byte{1, 2}, []byte{1, 2}}) {
		t.Error("lists of the value are shared")
	}
	spoil(p.Fields[0].Value.List[0].Bytes)
	p.Fields[0].Value.List[1] = api.Term{}
	back, e := value.Of(p.Fields[1].Value)
	if e != api.OK || !value.Same(back, api.List{[]byte{1, 2}, []byte{1, 2}}) {
		t.Error("lists of the term are shared")
	}
	p.Fields[1] = api.Entry{}
	if v.(*api.Record).Fields[1].Name != "b" || entries[1].Name != "b" {
		t.Error("fields are shared")
	}
}

// spoil writes over bytes and their spare room.
func spoil(b []byte) {
	b = b[:cap(b)]
	for i := range b {
		b[i] = 0xee
	}
}
