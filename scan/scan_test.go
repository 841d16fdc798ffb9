package scan_test

import (
	"testing"

	"tenon/api"
	"tenon/sample"
	"tenon/scan"
)

// A reader that gives up is caught, and leaves nothing beside the place and the error.
func TestCatch(t *testing.T) {
	if v, at, e := scan.Catch(func() (string, int) { return "a", 3 }); v != "a" || at != 3 || e != api.OK {
		t.Error(v, at, e)
	}
	if v, at, e := scan.Catch(func() (string, int) { panic(scan.Fault{At: 7, Why: api.ErrForm}) }); v != "" || at != 7 || e != api.ErrForm {
		t.Error(v, at, e)
	}
}

// Any other panic goes through: it would be a mistake that nobody should take for an error of a text.
func TestCatchHidesNothing(t *testing.T) {
	for i, thrown := range sample.Thrown() {
		caught := false
		func() {
			defer func() { caught = recover() != nil }()
			scan.Catch(func() (int, int) { panic(thrown) })
		}()
		if !caught {
			t.Errorf("%d: %T is hidden", i, thrown)
		}
	}
}

// gaveUp is where and why a reader of that text gives up; OK, if it does not.
func gaveUp(s string, read func(r *scan.Reader)) (int, api.Errno) {
	r := &scan.Reader{Text: s}
	_, at, e := scan.Catch(func() (int, int) { read(r); return 0, r.At })
	return at, e
}

func TestReader(t *testing.T) {
	commas := func(r *scan.Reader) {
		r.Bracketed('[', ']', func(int) { r.Word() })
		r.End()
	}
	name := func(r *scan.Reader) { r.FieldName(0, "b") }
	last := func(r *scan.Reader) { r.FieldName(api.MaxItems, "b") }
	version := func(r *scan.Reader) { r.Version() }
	for _, x := range []struct {
		s    string
		read func(*scan.Reader)
		at   int
		why  api.Errno
	}{
		{" [ ] ", commas, 5, api.OK}, {"[a]", commas, 3, api.OK}, {"\t[\na ,\rb0_, 9]\n", commas, 15, api.OK},
		{"", commas, 0, api.ErrShort}, {"  ", commas, 2, api.ErrShort}, {" a", commas, 1, api.ErrForm}, {"[ ", commas, 2, api.ErrShort}, {"[a", commas, 2, api.ErrShort}, {"[a b]", commas, 3, api.ErrForm}, {"[a,", commas, 3, api.ErrShort}, {"[a,]", commas, 3, api.ErrForm}, {"[,a]", commas, 1, api.ErrForm}, {"[a] ]", commas, 4, api.ErrMore},
		{" c", name, 2, api.OK}, {" b", name, 1, api.ErrName}, {" a", name, 1, api.ErrName}, {" 9", name, 1, api.ErrName}, {" B", name, 1, api.ErrForm}, {" ", name, 1, api.ErrShort}, {"9", last, 0, api.ErrLong}, {"c", last, 0, api.ErrLong}, {"C", last, 0, api.ErrForm}, {"", last, 0, api.ErrShort},
		{"1", version, 1, api.OK}, {"1000 ", version, 4, api.OK}, {"", version, 0, api.ErrShort}, {" 1", version, 0, api.ErrForm}, {"x", version, 0, api.ErrForm}, {"00", version, 0, api.ErrForm}, {"01", version, 0, api.ErrForm}, {"0", version, 0, api.ErrArg}, {"1001", version, 0, api.ErrArg}, {"99999999999999999999", version, 0, api.ErrArg},
	} {
		if at, e := gaveUp(x.s, x.read); at != x.at || e != x.why {
			t.Errorf("%q: %d, %d, want %d, %d", x.s, at, e, x.at, x.why)
		}
	}
}
