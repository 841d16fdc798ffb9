package object_test

import (
	"testing"

	"tenon/api"
	"tenon/object"
	"tenon/sample"
	"tenon/value"
)

// P10.9, P10.14: one that is not loaded is loaded, once; one that is not Lazy, or is loaded, is left alone.
func TestLoad(t *testing.T) {
	s := ordinary()
	for _, o := range able(s, api.IsLazy, true) {
		s.Loaded = false
		mustLoad(t, o, api.OK)
		mustLog(t, s, "Loaded", "Load")
		mustLoad(t, o, api.OK)
		mustLog(t, s, "Loaded")
		for _, e := range []api.Errno{api.ErrArg, api.ErrNil, api.ErrPanic, api.ErrBusy, api.ErrFull, -1, 999} {
			s.Loaded, s.Fails = false, e
			mustLoad(t, o, e)
			mustLoad(t, o, e)
			mustLog(t, s, "Loaded", "Load", "Loaded", "Load")
			s.Loaded = true
			mustLoad(t, o, api.OK)
			mustLog(t, s, "Loaded")
		}
		s.Fails = api.OK
	}
	s.Loaded, s.Fails = false, api.ErrFull
	for _, o := range able(s, api.IsLazy, false) {
		mustLoad(t, o, api.OK)
		mustLog(t, s)
	}
}

// never says that it is loaded, though Load answers OK.
type never struct {
	blunt
	loads *int
}

func (n never) ID() api.Ref                 { return 1 }
func (n never) Get(name string) (any, bool) { return int64(*n.loads), true }
func (n never) Class() string               { return "n" }
func (n never) Version() int                { return 1 }
func (n never) Loaded() bool                { return false }
func (n never) Load() api.Errno             { *n.loads++; return api.OK }

// P10.9, P10.10: what Load answers counts, not what Loaded would tell behind it.
func TestNeverLoaded(t *testing.T) {
	n := 0
	o := never{loads: &n}
	mustLoad(t, o, api.OK)
	mustAsk(t, o, "a", int64(2), true, api.OK)
	mustRecord(t, o, []string{"b", "a"}, "n/1{a: 3, b: 4}")
	if n != 4 {
		t.Error(n)
	}
}

// P10.10, P10.14: Get is asked once with the name, behind Loaded and Load, if it is Lazy.
func TestAsk(t *testing.T) {
	s := ordinary()
	for set := range 16 {
		o := sample.Able(set, s)
		s.Loaded = false
		first := []string{"Loaded", "Load", "Get a"}
		later := []string{"Loaded", "Get c"}
		if set&api.IsLazy == 0 {
			first, later = first[2:], later[1:]
		}
		mustAsk(t, o, "a", int64(1), true, api.OK)
		mustLog(t, s, first...)
		mustAsk(t, o, "c", nil, false, api.OK)
		mustLog(t, s, later...)
		mustAsk(t, o, "d", nil, true, api.OK)
		mustAsk(t, o, "b", api.List{nil}, true, api.OK)
		s.Log = nil
	}
	for _, name := range sample.GoodNames() {
		s := &sample.Script{Fields: api.Dict{sample.Field(name, "x")}}
		mustAsk(t, sample.Able(0, s), name, "x", true, api.OK)
		mustAsk(t, (*blunt)(nil), name, name, true, api.OK)
	}
}

// P10.10: a name that is none is ErrName, ahead of all that is asked; then what Load answers; Get is not asked then.
func TestAskWrong(t *testing.T) {
	s := ordinary()
	for set := range 16 {
		o := sample.Able(set, s)
		s.Loaded, s.Fails = false, api.ErrFull
		for _, name := range sample.BadNames() {
			mustAsk(t, o, name, nil, false, api.ErrName)
		}
		mustLog(t, s)
		if set&api.IsLazy == 0 {
			mustAsk(t, o, "a", int64(1), true, api.OK)
			mustLog(t, s, "Get a")
			continue
		}
		for _, e := range []api.Errno{api.ErrFull, api.ErrName, api.ErrNil, -1, 999} {
			s.Fails = e
			mustAsk(t, o, "a", nil, false, e)
			mustLog(t, s, "Loaded", "Load")
		}
		s.Loaded = true
		mustAsk(t, o, "a", int64(1), true, api.OK)
		mustLog(t, s, "Loaded", "Get a")
	}
}

// P10.10: every value that can be is answered; what can't be is told as value.Check tells it.
func TestAskValues(t *testing.T) {
	s := ordinary()
	for set := range 16 {
		o := sample.Able(set, s)
		for _, v := range sample.Rich() {
			s.Fields = api.Dict{sample.Field("a", v)}
			mustAsk(t, o, "a", v, true, api.OK)
		}
		for _, w := range sample.Wrongs() {
			s.Fields = api.Dict{sample.Field("a", w.V)}
			mustAsk(t, o, "a", nil, false, w.Why)
			mustAsk(t, o, "b", nil, false, api.OK)
		}
	}
}

// denies answers a value, and that there is none.
type denies struct {
	blunt
	v any
}

func (d *denies) ID() api.Ref                 { return 1 }
func (d *denies) Get(name string) (any, bool) { return d.v, false }

// P10.10: what stands beside a false plays no part, even if it can't be.
func TestDenied(t *testing.T) {
	for _, v := range []any{nil, int64(1), "x", 7, func() {}, sample.Nobody(), sample.ListRing()} {
		mustAsk(t, &denies{v: v}, "a", nil, false, api.OK)
		mustRecord(t, &denies{v: v}, []string{"a", "b"}, "blunt/2{}")
	}
}

// P10.11: the names that it has, rising, in whatever order they were handed in, of the class and version that it tells.
func TestRecord(t *testing.T) {
	s := ordinary()
	for _, o := range able(s, api.IsVersioned, true) {
		for _, x := range []struct {
			names []string
			want  string
		}{
			{nil, "p/3{}"}, {[]string{}, "p/3{}"}, {[]string{"a"}, "p/3{a: 1}"}, {[]string{"c"}, "p/3{}"}, {[]string{"d"}, "p/3{d: nil}"}, {[]string{"a", "b", "c", "d"}, "p/3{a: 1, b: [nil], d: nil}"},
			{[]string{"d", "c", "b", "a"}, "p/3{a: 1, b: [nil], d: nil}"}, {[]string{"b", "d", "a"}, "p/3{a: 1, b: [nil], d: nil}"}, {[]string{"e", "a0", "a", "a_"}, "p/3{a: 1}"},
		} {
			mustRecord(t, o, x.names, x.want)
		}
	}
	mustRecord(t, (*blunt)(nil), []string{"z", "a_", "a", "aa", "a1"}, `blunt/2{a: "a", a1: "a1", a_: "a_", aa: "aa", z: "z"}`)
}

// P10.11, P10.14: class and version first, then name by name, rising, as Ask asks; behind an error nobody is asked any more.
func TestRecordCalls(t *testing.T) {
	for _, set := range []int{1, 3, 5, 7, 9, 11, 13, 15} {
		s := ordinary()
		o := sample.Able(set, s)
		mustRecord(t, o, []string{"d", "a", "c"}, "p/3{a: 1, d: nil}")
		if set&api.IsLazy == 0 {
			mustLog(t, s, "Class", "Version", "Get a", "Get c", "Get d")
		} else {
			mustLog(t, s, "Class", "Version", "Loaded", "Load", "Get a", "Loaded", "Get c", "Loaded", "Get d")
		}
		mustRecord(t, o, nil, "p/3{}")
		mustLog(t, s, "Class", "Version")
		s.Loaded, s.Fields[1].Value = true, 7
		mustNoRecord(t, o, []string{"d", "b", "a"}, api.ErrKind)
		if set&api.IsLazy == 0 {
			mustLog(t, s, "Class", "Version", "Get a", "Get b")
		} else {
			mustLog(t, s, "Class", "Version", "Loaded", "Get a", "Loaded", "Get b")
		}
		s.Loaded, s.Fails = false, api.ErrBusy
		if set&api.IsLazy != 0 {
			mustNoRecord(t, o, []string{"d", "b", "a"}, api.ErrBusy)
			mustLog(t, s, "Class", "Version", "Loaded", "Load")
		}
	}
}

// P10.11: the first of all errors: names ahead of too many, that ahead of the ability, that ahead of what it tells of itself, that ahead of its values.
func TestRecordFirstError(t *testing.T) {
	var many, twice, bad []string
	for _, f := range sample.Fields(api.MaxItems + 1) {
		many = append(many, f.Name)
	}
	twice = append(append(twice, many...), many[77])
	bad = append(append(bad, many...), "A")
	s := ordinary()
	for set := range 16 {
		o := sample.Able(set, s)
		for _, class := range []string{"p", "P"} {
			s.Class = class
			for _, names := range [][]string{bad, twice, {"a", "a"}, {"b", "a", "b"}, {""}, {"a", "", "b"}, {"A", "A"}, {"", ""}, {"a", "b", "c", "d", "c"}} {
				mustNoRecord(t, o, names, api.ErrName)
			}
			mustNoRecord(t, o, many, api.ErrLong)
		}
		if set&api.IsVersioned == 0 {
			mustNoRecord(t, o, nil, api.ErrLack)
			mustNoRecord(t, o, []string{"a"}, api.ErrLack)
			mustNoRecord(t, o, many[1:], api.ErrLack)
		}
		for _, name := range sample.BadNames() {
			mustNoRecord(t, o, []string{name}, api.ErrName)
			mustNoRecord(t, o, []string{"a", name, "b"}, api.ErrName)
		}
	}
	mustLog(t, s)
	mustNoRecord(t, nil, bad, api.ErrNil)
	mustNoRecord(t, nil, many, api.ErrNil)
	mustNoRecord(t, (*object.Thing)(nil), twice, api.ErrNil)
	for _, o := range able(s, api.IsVersioned, true) {
		s.Fields[0].Value, s.Loaded, s.Fails = 7, false, api.ErrFull
		s.Class, s.Version = "P", 0
		mustNoRecord(t, o, []string{"a"}, api.ErrName)
		s.Class = "p"
		for _, version := range []int{0, -1, api.MaxVersion + 1} {
			s.Version = version
			mustNoRecord(t, o, []string{"a"}, api.ErrArg)
			mustNoRecord(t, o, nil, api.ErrArg)
		}
		s.Version = api.MaxVersion
		mustRecord(t, o, nil, "p/1000{}")
	}
}

// P10.11: as many names as a record may have fields; each of them asked.
func TestRecordOfMany(t *testing.T) {
	s := ordinary()
	s.Fields = sample.Fields(api.MaxItems)
	var names []string
	for _, f := range s.Fields {
		names = append([]string{f.Name}, names...)
	}
	r, e := object.Record(sample.Able(api.IsVersioned, s), names)
	if e != api.OK || !value.Same(r, sample.Record("p", 3, s.Fields...)) {
		t.Error(e)
	}
	if len(s.Log) != api.MaxItems+2 || s.Log[2] != "Get "+names[api.MaxItems-1] {
		t.Error(len(s.Log))
	}
}

// P10.11: values that can be, but not within a record, or not together, are told as value.Check tells it of the record; every name is asked ahead of that.
func TestRecordTooGreat(t *testing.T) {
	s := ordinary()
	o := sample.Able(api.IsVersioned, s)
	for i, fields := range []api.Dict{
		{sample.Field("a", sample.Within(api.MaxDepth, nil)), sample.Field("b", nil)},
		{sample.Field("a", sample.Numbered(api.MaxNodes-1, nil)), sample.Field("b", nil)},
		{sample.Field("a", sample.Numbered(api.MaxNodes/2, nil)), sample.Field("b", sample.Numbered(api.MaxNodes/2, nil))},
	} {
		s.Fields = fields
		mustNoRecord(t, o, []string{"b", "a"}, api.ErrLong)
		mustLog(t, s, "Class", "Version", "Get a", "Get b")
		s.Fields = append(fields, sample.Field("c", func() {}))
		mustNoRecord(t, o, []string{"b", "a", "c"}, api.ErrKind)
		mustLog(t, s, "Class", "Version", "Get a", "Get b", "Get c")
		mustAsk(t, o, "a", fields[0].Value, true, api.OK)
		s.Log = nil
		if _, e := value.Check(sample.Record("p", 1, fields...)); e != api.ErrLong {
			t.Error(i, e)
		}
	}
	s.Fields = api.Dict{sample.Field("a", sample.Within(api.MaxDepth-1, nil)), sample.Field("b", sample.Items(api.MaxItems))}
	r, e := object.Record(o, []string{"a", "b"})
	if e != api.OK || !value.Same(r.Fields, s.Fields) {
		t.Error(e)
	}
}
