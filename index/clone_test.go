package index_test

import (
	"testing"

	"tenon/api"
	"tenon/index"
	"tenon/sample"
)

// P16.4: a clone has the same, and is of the same; what is changed on either side is changed there alone.
func TestClone(t *testing.T) {
	x := filled(t, 5)
	mustPut(t, x, teller(2, int64(10), int64(20)))
	mustPut(t, x, teller(6))
	have := all(t, x)
	c := x.Clone()
	mustHold(t, "the clone", c, have...)
	mustKeep(t, c, 6)
	if c.Def() != x.Def() {
		t.Error(c.Def())
	}
	mustStay(t, "changes of the clone", x, func() {
		mustPut(t, c, teller(1, int64(10), "c"))
		mustPut(t, c, teller(7, int64(10), "c"))
		mustPut(t, c, teller(2, int64(20)))
		mustPut(t, c, teller(6, "c"))
		mustDrop(t, c, 3, true)
		mustDrop(t, c, 4, true)
		mustDrop(t, c, 5, true)
	})
	mustStay(t, "changes of what was cloned", c, func() {
		mustPut(t, x, teller(2, int64(20), "x"))
		mustPut(t, x, teller(8, int64(10), int64(30), "x"))
		mustDrop(t, x, 1, true)
		mustDrop(t, x, 6, true)
		mustDrop(t, x, 5, true)
	})
	mustHold(t, "the clone", c, pairs(int64(10), 1, int64(10), 7, int64(20), 2, "c", 1, "c", 6, "c", 7)...)
	mustHold(t, "what was cloned", x, pairs(int64(10), 8, int64(20), 2, int64(30), 3, int64(30), 8, int64(40), 4, "x", 2, "x", 8)...)
	for id := range api.Ref(10) {
		x.Drop(id)
	}
	mustHold(t, "nothing", x)
	agrees(t, c)
}

// P16.4: clones of clones, and of an index of nothing; each goes by the same definition.
func TestCloneOfClone(t *testing.T) {
	x := fresh(t, api.IndexOf{Class: "person", Way: "a[0]", Unique: true, Some: true})
	c := x.Clone()
	able := func(id api.Ref, class string, keys ...any) api.Object {
		return sample.Able(api.IsVersioned+api.IsIndexed, &sample.Script{ID: id, Class: class, Version: 1, Keys: keys})
	}
	mustPut(t, c, able(1, "person", "a"))
	mustHold(t, "none", x)
	d := c.Clone()
	for i, y := range []*index.Index{c, d, d.Clone(), x.Clone()} {
		mustPut(t, y, able(9, "dog", "x"))
		mustNotKeep(t, y, 9)
		mustPut(t, y, able(2, "person", "b"))
		mustNotPut(t, i, y, able(3, "person", "b"), api.ErrTwice)
		mustPut(t, y, sample.Able(api.IsVersioned, &sample.Script{ID: 2, Class: "person", Version: 1, Fields: api.Dict{sample.Field("a", api.List{})}}))
		mustNotKeep(t, y, 2)
		mustPut(t, y, sample.Able(api.IsVersioned, &sample.Script{ID: 2, Class: "person", Version: 1, Fields: api.Dict{sample.Field("a", api.List{"a0"})}}))
	}
	mustHold(t, "d", d, pairs("a", 1, "a0", 2)...)
	mustHold(t, "c", c, pairs("a", 1, "a0", 2)...)
	mustHold(t, "x", x)
}

// P16.4: many clones, each changed once and cloned on, keep what was kept when they were made.
func TestCloneLine(t *testing.T) {
	x := fresh(t, byTag())
	line := []*index.Index{x}
	for i := range 30 {
		c := line[i].Clone()
		mustPut(t, c, teller(api.Ref(i+1), int64(i), "all"))
		line = append(line, c)
	}
	for i, c := range line {
		mustFind(t, c, "all", upTo(i)...)
		if c.Len() != 2*i {
			t.Error(i, c.Len())
		}
		agrees(t, c)
	}
}

// upTo is 1 to n.
func upTo(n int) []api.Ref {
	var l []api.Ref
	for i := range n {
		l = append(l, api.Ref(i+1))
	}
	return l
}

// P16.2, P16.5: what is cloned while something is shown, or while an object is asked, has what is kept by then.
func TestCloneWithin(t *testing.T) {
	x := filled(t, 3)
	var c *index.Index
	e := x.Range(nil, nil, true, true, func(f api.Found) bool {
		mustDrop(t, x, f.ID, true)
		if f.ID == 2 {
			c = x.Clone()
		}
		return true
	})
	must(t, "Range", e, api.OK)
	mustHold(t, "cloned meanwhile", c, pairs(int64(30), 3)...)
	mustHold(t, "x", x)
}
