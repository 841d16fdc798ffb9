package index_test

import (
	"strings"
	"testing"

	"tenon/api"
	"tenon/index"
	"tenon/sample"
)

// P16.1: an index of nothing, which tells what it is of.
func TestNew(t *testing.T) {
	longest := strings.TrimSuffix(strings.Repeat("a.", api.MaxDepth), ".")
	for _, way := range []string{"a", "tags[0]", "a.b.c", "a[0][4095].b", "is", "nil", strings.Repeat("n", api.MaxName), longest, "a" + strings.Repeat("[0]", api.MaxDepth-1)} {
		for _, class := range append(sample.GoodNames(), "") {
			for i := range 4 {
				def := api.IndexOf{Class: class, Way: way, Unique: i&1 != 0, Some: i&2 != 0}
				x := fresh(t, def)
				if x.Def() != def {
					t.Error(x.Def(), def)
				}
				mustHold(t, def, x)
				mustFind(t, x, nil)
				mustNotKeep(t, x, 0, 1)
				mustDrop(t, x, 1, false)
			}
		}
	}
}

func mustNotNew(t *testing.T, def api.IndexOf, want api.Errno) {
	t.Helper()
	for i := range 4 {
		def.Unique, def.Some = i&1 != 0, i&2 != 0
		if x, e := index.New(def); x != nil || e != want {
			t.Errorf("%+v: %v, %d, want %d", def, x, e, want)
		}
	}
}

// P16.1: what is no name and not empty is no class, whatever the way is.
func TestNewWithoutName(t *testing.T) {
	for _, class := range sample.BadNames() {
		if class == "" {
			continue
		}
		for _, way := range []string{"age", "", "[0]", "a..b", "A"} {
			mustNotNew(t, api.IndexOf{Class: class, Way: way}, api.ErrName)
		}
	}
}

// P16.1: path.Parse's error of a way that is none, ahead of what comes of one that is.
func TestNewWithoutWay(t *testing.T) {
	tooMany := strings.TrimSuffix(strings.Repeat("a.", api.MaxDepth+1), ".")
	for _, w := range []struct {
		way  string
		want api.Errno
	}{
		{"", api.ErrArg}, {"[0]", api.ErrArg}, {"[4095]", api.ErrArg}, {"[0].a", api.ErrArg}, {"[0][0]", api.ErrArg},
		{strings.Repeat("[0]", api.MaxDepth), api.ErrArg}, {strings.Repeat("[0]", api.MaxDepth+1), api.ErrLong},
		{"A", api.ErrForm}, {"a..b", api.ErrForm}, {".a", api.ErrForm}, {" a", api.ErrForm}, {"a ", api.ErrForm}, {"a[x]", api.ErrForm}, {"a[01]", api.ErrForm}, {"[0]a", api.ErrForm},
		{"a.", api.ErrShort}, {"a[", api.ErrShort}, {"a[1", api.ErrShort}, {"[0", api.ErrShort},
		{"9", api.ErrName}, {"a._b", api.ErrName}, {"[0].9", api.ErrName}, {strings.Repeat("n", api.MaxName+1), api.ErrName},
		{"a[4096]", api.ErrArg}, {"[4096]", api.ErrArg}, {tooMany, api.ErrLong}, {tooMany + "..", api.ErrLong},
	} {
		for _, class := range []string{"", "person"} {
			mustNotNew(t, api.IndexOf{Class: class, Way: w.way}, w.want)
		}
		mustNotNew(t, api.IndexOf{Class: "No", Way: w.way}, api.ErrName)
	}
}

// Ends: an index that New did not make panics at no call, and can be changed.
func TestZero(t *testing.T) {
	var x index.Index
	if x.Def() != (api.IndexOf{}) || x.Len() != 0 || x.Drop(1) {
		t.Error(x.Def(), x.Len())
	}
	mustFind(t, &x, nil)
	mustNotKeep(t, &x, 0, 1)
	mustShow(t, &x, nil, nil, false, false)
	must(t, "Range", x.Range(nil, nil, true, true, nil), api.ErrArg)
	c := x.Clone()
	for _, o := range []api.Object{nil, aged(1, nil), person(2, nil), teller(3, "a"), teller(4)} {
		e := x.Test(o)
		must(t, "Put", x.Put(o), e)
	}
	x.Drop(3)
	if c.Len() != 0 || c.Clone().Len() != 0 {
		t.Error(c.Len())
	}
}
