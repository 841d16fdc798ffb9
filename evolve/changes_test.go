package evolve_test

import (
	"fmt"
	"math"
	"strings"
	"testing"

	"tenon/api"
	"tenon/evolve"
	"tenon/sample"
	"tenon/schema"
)

// turn is what becomes of class p from version 1 to 2, and back, and what each of the two needs.
type turn struct {
	one, two          string // the fields
	changes, needs    string
	backward, needed2 string
}

func mustTurn(t *testing.T, all ...turn) {
	t.Helper()
	for _, x := range all {
		s := made(t, "class p 1 {"+x.one+"} class p 2 {"+x.two+"}")
		mustChange(t, s, 1, 2, x.changes, x.needs)
		mustChange(t, s, 2, 1, x.backward, x.needed2)
	}
}

// P8.3, P8.4: each change by itself.
func TestChangesOne(t *testing.T) {
	mustTurn(t,
		turn{"", "", "", "", "", ""},
		turn{"a: int b: text = 3", "a: int b: text = 3", "", "", "", ""},
		turn{"", "a: int", "a< 1", "a", "a<a 2", ""},
		turn{"", "a: int = 3", "a< 1", "", "a<a 2", ""},
		turn{"b: int", "a: int b: int c: int = 1 d: int", "a< 1, c< 1, d< 1", "a d", "a<a 2, c<c 2, d<d 2", ""},
		turn{"a: int", "b: int was a", "b<a 4", "", "a<b 4", ""},
		turn{"b: int", "a: int was b", "a<b 4", "", "b<a 4", ""},
		turn{"a: int", "a: int | nil", "a<a 8", "", "a<a 16", ""},
		turn{"a: int", "a: any", "a<a 8", "", "a<a 16", ""},
		turn{"a: none", "a: int", "a<a 8", "", "a<a 16", ""},
		turn{"a: int | text", "a: text | int", "a<a 8", "", "a<a 8", ""},
		turn{"a: int", "a: int | int", "a<a 8", "", "a<a 8", ""},
		turn{"a: [int]", "a: list", "a<a 8", "", "a<a 16", ""},
		turn{"a: list", "a: [any]", "a<a 16", "", "a<a 8", ""},
		turn{"a: {b: int}", "a: {b: int, ...}", "a<a 8", "", "a<a 16", ""},
		turn{"a: {b: int}", "a: {b?: int}", "a<a 8", "", "a<a 16", ""},
		turn{"a: {b: int}", "a: {c: int}", "a<a 16", "a", "a<a 16", "a"},
		turn{"a: of b", "a: record", "a<a 8", "", "a<a 16", ""},
		turn{"a: of b", "a: of c", "a<a 16", "a", "a<a 16", "a"},
		turn{"a: is 1", "a: int", "a<a 8", "", "a<a 16", ""},
		turn{"a: is 1", "a: is 2", "a<a 16", "a", "a<a 16", "a"},
		turn{"a: is 0x0p+00", "a: is -0x0p+00", "a<a 16", "a", "a<a 16", "a"},
		turn{"a: int", "a: text", "a<a 16", "a", "a<a 16", "a"},
		turn{"a: int | text", "a: int | nil", "a<a 16", "a", "a<a 16", "a"}, // they have ints in common, but not plainly
		turn{"a: int", "a: int = 1", "a<a 32", "", "a<a 32", ""},
		turn{"a: int = 0", "a: int = 1", "a<a 32", "", "a<a 32", ""},
		turn{"a: any = nil", "a: any", "a<a 32", "", "a<a 32", ""},
		turn{"a: any = 0x0p+00", "a: any = -0x0p+00", "a<a 32", "", "a<a 32", ""},
		turn{"a: any = [1, {b: #01}]", "a: any = [1, {b: #01}]", "", "", "", ""},
		turn{"a: any = []", "a: any = {}", "a<a 32", "", "a<a 32", ""},
	)
}

// P8.3, P8.4: several changes of one field at once.
func TestChangesAtOnce(t *testing.T) {
	mustTurn(t,
		turn{"a: int", "b: any was a", "b<a 12", "", "a<b 20", ""},
		turn{"a: int", "b: text was a", "b<a 20", "b", "a<b 20", "a"},
		turn{"a: int", `b: text = "" was a`, "b<a 52", "", "a<b 52", "a"},
		turn{"a: int = 1", "b: int was a", "b<a 36", "", "a<b 36", ""},
		turn{"a: int = 1", "b: any = 2 was a", "b<a 44", "", "a<b 52", ""},
		turn{"a: int", "a: any = 2", "a<a 40", "", "a<a 48", ""},
		turn{"a: int = 1", "a: text", "a<a 48", "a", "a<a 48", ""},
		turn{"a: int = 1", `a: text = ""`, "a<a 48", "", "a<a 48", ""},
		turn{"a: int b: int c: int d: int e: int", "b: any c: int = 1 d: text f: int was e g: int", "b<b 8, c<c 32, d<d 16, f<e 4, g< 1, a<a 2", "d g", "a< 1, b<b 16, c<c 32, d<d 16, e<f 4, g<g 2", "a d"},
	)
}

// P8.3, P8.4: a Was that plays no part, since it names what is not there, or what another field is, or since the field's own name was there.
func TestChangesWas(t *testing.T) {
	mustTurn(t,
		turn{"a: int", "b: int was c", "b< 1, a<a 2", "b", "a< 1, b<b 2", "a"},
		turn{"a: int", "a: int was a", "", "", "", ""},
		turn{"a: int", "a: int was b", "", "", "", ""},
		turn{"a: int", "a: int b: int was a", "b< 1", "b", "b<b 2", ""},
		turn{"b: int", "a: int was b b: int", "a< 1", "a", "a<a 2", ""},
		turn{"a: int b: int", "b: int was a", "a<a 2", "", "a< 1", "a"},
		turn{"a: int b: int", "a: int was b b: int was a", "", "", "", ""}, // they do not change places
		turn{"a: int", "b: int was c c: int was a", "b< 1, c<a 4", "b", "a<c 4, b<b 2", ""},
		turn{"a: int was b", "b: int", "b< 1, a<a 2", "b", "a< 1, b<b 2", "a"}, // the Was of the lower version plays none
		turn{"a: int was c c: text", "c: text was b", "a<a 2", "", "a< 1", "a"},
		turn{"a: int = 1 was b b: int = 1", "a: int = 1 was c", "b<b 2", "", "b< 1", ""},
	)
}

// P8.3, P8.4: several fields that had one name: each comes from it; what goes back to it comes from the first whose own name is not there.
func TestChangesOneName(t *testing.T) {
	mustTurn(t,
		turn{"a: int", "b: int was a c: int was a", "b<a 4, c<a 4", "", "a<b 4, c<c 2", ""},
		turn{"a: int", "b: text was a c: int was a", "b<a 20, c<a 4", "b", "a<b 20, c<c 2", "a"},
		turn{"m: int", "a: int was m z: any was m", "a<m 4, z<m 12", "", "m<a 4, z<z 2", ""},
		turn{"m: int", "a: any was m z: int was m", "a<m 12, z<m 4", "", "m<a 20, z<z 2", ""},
		turn{"a: int b: int", "b: int was a c: int was a", "c<a 4", "", "a<c 4", ""},
		turn{"a: int c: int", "b: int was a c: int was a d: int was a", "b<a 4, d<a 4", "", "a<b 4, d<d 2", ""},
		turn{"a: int", "a: int b: int was a c: int was a", "b< 1, c< 1", "b c", "b<b 2, c<c 2", ""},
	)
}

// P8.3, P8.4: versions further apart, up and down: Was plays no part.
func TestChangesFarApart(t *testing.T) {
	s := made(t, "class p 1 { a: int } class p 2 { b: int was a } class p 3 { c: any was b } class p 4 { c: int = 4 was a d: any was a }")
	mustChange(t, s, 1, 2, "b<a 4", "")
	mustChange(t, s, 2, 3, "c<b 12", "")
	mustChange(t, s, 3, 4, "c<c 48, d< 1", "d")
	mustChange(t, s, 4, 3, "c<c 40, d<d 2", "")
	mustChange(t, s, 3, 2, "b<c 20", "")
	mustChange(t, s, 2, 1, "a<b 4", "")
	mustChange(t, s, 1, 3, "c< 1, a<a 2", "c")
	mustChange(t, s, 3, 1, "a< 1, c<c 2", "a")
	mustChange(t, s, 1, 4, "c< 1, d< 1, a<a 2", "d")
	mustChange(t, s, 4, 1, "a< 1, c<c 2, d<d 2", "a")
	mustChange(t, s, 2, 4, "c< 1, d< 1, b<b 2", "d")
	mustChange(t, s, 4, 2, "b< 1, c<c 2, d<d 2", "b")
}

// P8.3, P8.4: the fields of parents are a class's fields, whichever of the two has them; their Was, too.
func TestChangesParents(t *testing.T) {
	s := made(t, `
		class q 1 { x: int }
		class q 2 { y: int was x }
		class q 3 { y: any was z  z: int }
		class r 1 : q 2 { k: text = "" was j }
		class p 1 : q 1 { a: int }
		class p 2 : q 2 { a: int }
		class p 3 { a: int y: int }
		class p 4 : q 3 { a: int }
		class p 5 : r 1 { a: int }
		class p 6 : p 1 { j: text }
		class p 7 : r 1 { a: int x: int }
		class p 8 : q 1 abstract { b: int was a }`)
	mustChange(t, s, 1, 2, "y<x 4", "")
	mustChange(t, s, 2, 1, "x<y 4", "")
	mustChange(t, s, 2, 3, "", "")
	mustChange(t, s, 3, 2, "", "")
	mustChange(t, s, 3, 4, "y<y 8, z< 1", "z")
	mustChange(t, s, 4, 3, "y<y 16, z<z 2", "")
	mustChange(t, s, 4, 5, "k< 1, y<y 16, z<z 2", "")
	mustChange(t, s, 5, 4, "y<y 8, z< 1, k<k 2", "z")
	mustChange(t, s, 5, 6, "j< 1, x< 1, k<k 2, y<y 2", "j x")
	mustChange(t, s, 6, 5, "k< 1, y< 1, j<j 2, x<x 2", "y")
	mustChange(t, s, 6, 7, "k<j 36, y< 1", "y")
	mustChange(t, s, 7, 6, "j<k 36, y<y 2", "")
	mustChange(t, s, 7, 8, "b<a 4, k<k 2, y<y 2", "")
	mustChange(t, s, 8, 7, "a<b 4, k< 1, y< 1", "y")
	mustChange(t, s, 1, 6, "j< 1", "j")
	mustChange(t, s, 6, 1, "j<j 2", "")
}

// P8.3: types are the same by all that their kinds use, and by nothing else; defaults, too, and by their bits.
func TestChangesClutter(t *testing.T) {
	types, quiet := sample.Types(), sample.Bits(0x7ff8000000000001)
	var one, two []api.FieldOf
	for i, f := range sample.SomeFields(0, len(types)) {
		f.Type, f.Default = types[i], sample.Term(quiet)
		one = append(one, f)
		f.Type, f.Default = sample.Cluttered(types[i]), sample.ClutteredTerm(f.Default)
		two = append(two, f)
	}
	s := defined(t, sample.Class("p", 1, one...), sample.Class("p", 2, two...))
	mustChange(t, s, 1, 2, "", "")
	none := sample.Some("a")
	none.Has = false
	junk := none
	junk.Default = api.Term{Kind: 99}
	s = defined(t, sample.Class("p", 1, none, sample.With(sample.Some("b"), quiet)), sample.Class("p", 2, junk, sample.With(sample.Some("b"), sample.Bits(0x7ff8000000000002))), sample.Class("p", 3, junk, sample.With(sample.Some("b"), math.NaN())))
	mustChange(t, s, 1, 2, "b<b 32", "")
	mustChange(t, s, 1, 3, "", "")
}

// P8.3 to P8.5: the errors, in their order, and nothing beside them.
func TestStepErrors(t *testing.T) {
	s := made(t, "class p 1 { a: int } class p 2 { a: text b: int } class q 1 abstract { }")
	type call struct {
		s        *schema.Schema
		name     string
		from, to int
		want     api.Errno
	}
	calls := []call{
		{nil, "p", 1, 2, api.ErrNil}, {nil, "p", 1, 1, api.ErrNil}, {nil, "x", 9, 9, api.ErrNil}, {nil, "", 0, 0, api.ErrNil},
		{s, "p", 1, 1, api.ErrArg}, {s, "p", 2, 2, api.ErrArg}, {s, "q", 1, 1, api.ErrArg},
		{s, "p", 3, 3, api.ErrClass}, {s, "p", 0, 0, api.ErrClass}, {s, "r", 1, 1, api.ErrClass}, {s, "q", 1, 2, api.ErrClass}, {s, "q", 2, 1, api.ErrClass}, {new(schema.Schema), "p", 1, 2, api.ErrClass}, {new(schema.Schema), "p", 1, 1, api.ErrClass},
	}
	for _, version := range []int{0, -1, 3, 4, 1000, 1001, math.MaxInt, math.MinInt} {
		calls = append(calls, call{s, "p", 1, version, api.ErrClass}, call{s, "p", version, 1, api.ErrClass}, call{s, "p", version, version, api.ErrClass})
	}
	for _, name := range append(sample.BadNames(), "pp", "o", strings.Repeat("p", 100)) {
		calls = append(calls, call{s, name, 1, 2, api.ErrClass}, call{s, name, 1, 1, api.ErrClass})
	}
	for _, x := range calls {
		l, e := evolve.Changes(x.s, x.name, x.from, x.to)
		n, ne := evolve.Needs(x.s, x.name, x.from, x.to)
		c, ce := evolve.Auto(x.s, x.name, x.from, x.to)
		if len(l) != 0 || e != x.want || len(n) != 0 || ne != x.want || c != nil || ce != x.want {
			t.Errorf("%q %d %d: %v %d, %v %d, %v %d, want %d", x.name, x.from, x.to, l, e, n, ne, c, ce, x.want)
		}
	}
}

// P8.3, P8.4: as many fields as can be, all of them renamed.
func TestChangesMany(t *testing.T) {
	one, two := sample.SomeFields(0, api.MaxItems), sample.SomeFields(api.MaxItems, api.MaxItems)
	for i := range two {
		one[i].Has, two[i].Has = false, false
		two[i].Was = one[len(one)-1-i].Name // the first one was the last one
	}
	s := defined(t, sample.Class("p", 1, one...), sample.Class("p", 2, two...))
	for _, way := range [][2]int{{1, 2}, {2, 1}} {
		l, e := evolve.Changes(s, "p", way[0], way[1])
		if e != api.OK || len(l) != api.MaxItems {
			t.Fatal(len(l), e)
		}
		for i, x := range l {
			name, was := i+(way[1]-1)*api.MaxItems, api.MaxItems-1-i+(way[0]-1)*api.MaxItems
			if want := (api.Evolution{Name: fmt.Sprintf("f%06d", name), Was: fmt.Sprintf("f%06d", was), What: api.FieldNamed}); x != want {
				t.Fatal(x, want)
			}
		}
		if n, e := evolve.Needs(s, "p", way[0], way[1]); len(n) != 0 || e != api.OK {
			t.Error(len(n), e)
		}
		mustHave(t, auto(t, s, way[0], way[1]), "reversible")
	}
}

// The chapter's examples.
func TestChangesExamples(t *testing.T) {
	mustTurn(t,
		turn{"name: text", "age: int = 0 name: text | nil", "age< 1, name<name 8", "", "name<name 16, age<age 2", ""},
		turn{"name: text", "full: text was name", "full<name 4", "", "name<full 4", ""},
		turn{"name: text", "age: int name: text", "age< 1", "age", "age<age 2", ""},
	)
}
