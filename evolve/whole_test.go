package evolve_test

import (
	"math/rand"
	"slices"
	"testing"

	"tenon/api"
	"tenon/evolve"
	"tenon/sample"
	"tenon/schema"
	"tenon/value"
)

// crossing is fields that conform to the earlier version, and what Convert answered of them.
type crossing struct {
	s        *schema.Schema
	from, to int
	c        api.Converter
	fields   api.Dict
	made     api.Dict
	e        api.Errno
}

// conforms tells whether fields conform to a version of class p.
func conforms(s *schema.Schema, version int, d api.Dict) bool {
	_, e := evolve.Conforms(s, sample.Record("p", version, d...))
	return e == api.OK
}

// eachCrossing shows fields that conform on their way from version to version, of schemas that come by chance; now and then they hold so much that too much comes of it.
func eachCrossing(t *testing.T, schemas int, seed int64, show func(x crossing)) {
	t.Helper()
	great := sized(9000)
	eachWay(t, schemas, seed, func(r *rand.Rand, s *schema.Schema, from, to int) {
		c, e := evolve.Auto(s, "p", from, to)
		if e != api.OK {
			return
		}
		fields, _ := s.Fields("p", from)
		for range 5 {
			d := anyFieldsOf(r, fields)
			for i, f := range fields {
				if len(d) == len(fields) && r.Intn(10) == 0 && is(great, f.Type) {
					d[i].Value = great
				}
			}
			if conforms(s, from, d) {
				x := crossing{s: s, from: from, to: to, c: c, fields: d}
				x.made, x.e = c.Convert(d)
				show(x)
			}
		}
	})
}

// P8.6: each later field holds what the earlier one held from which it comes, or its default; and there are no other fields.
func TestToldOrKept(t *testing.T) {
	n := map[string]int{}
	eachCrossing(t, 600, 6, func(x crossing) {
		if x.e != api.OK {
			return
		}
		m := modelOf(t, x.s, x.from, x.to)
		if len(x.made) != len(m.later) {
			t.Fatal(told(x.made))
		}
		for i, f := range m.later {
			v := x.made[i].Value
			kept := false
			if e := m.comesFrom(f); e != nil {
				at := slices.IndexFunc(x.fields, func(g api.Field) bool { return g.Name == e.Name })
				kept = value.Same(v, x.fields[at].Value)
			}
			byDefault := f.Has && value.Same(v, rest(f))
			if x.made[i].Name != f.Name || !kept && !byDefault {
				t.Errorf("%s of %s: %s", f.Name, told(x.fields), told(x.made))
			}
			if kept && !byDefault {
				n["kept"]++
			}
			if byDefault && !kept {
				n["told"]++
			}
		}
	})
	count(t, n, 500, "kept", "told")
}

// P8.7: what comes of fields that conform conforms to the later version, but for defaults that are not of their types.
func TestItFits(t *testing.T) {
	n := map[string]int{}
	eachCrossing(t, 600, 7, func(x crossing) {
		if x.e != api.OK {
			return
		}
		m := modelOf(t, x.s, x.from, x.to)
		sound := true
		for i, f := range m.later {
			v := x.made[i].Value
			sound = sound && (!f.Has || is(rest(f), f.Type))
			if !is(v, f.Type) && !(f.Has && value.Same(v, rest(f))) {
				t.Errorf("%s of %s: %s", f.Name, told(x.fields), told(x.made))
			}
		}
		switch fits := conforms(x.s, x.to, x.made); {
		case sound && !fits:
			t.Errorf("%s becomes %s", told(x.fields), told(x.made))
		case sound:
			n["sound"]++
		case !fits:
			n["not of its type"]++
		}
	})
	count(t, n, 1000, "sound")
	count(t, n, 20, "not of its type")
}

// P8.8: the abilities are shown exactly if they are had; what is not Partial takes all fields that conform, if not too much comes of them.
func TestShownIfHad(t *testing.T) {
	n := map[string]int{}
	eachCrossing(t, 800, 8, func(x crossing) {
		mustHave(t, x.c, modelOf(t, x.s, x.from, x.to).abilities())
		mustTake(t, x.c, x.fields, x.e)
		_, partial := x.c.(api.Partial)
		switch {
		case x.e == api.ErrLong:
			n["too great"]++
		case !partial && x.e != api.OK:
			t.Errorf("%s: %d", told(x.fields), x.e)
		case partial && x.e == api.ErrMisfit:
			n["refused"]++
		case partial:
			n["taken"]++
		default:
			n["all"]++
		}
	})
	count(t, n, 500, "all", "taken", "refused")
	count(t, n, 1, "too great")
}

// P8.9: if it is Reversible, and no field has become FieldOther, Back of what Convert answers is the fields.
func TestThereAndBack(t *testing.T) {
	n := map[string]int{}
	eachCrossing(t, 1500, 9, func(x crossing) {
		r, ok := x.c.(api.Reversible)
		l, _ := evolve.Changes(x.s, "p", x.from, x.to)
		if !ok || slices.ContainsFunc(l, func(y api.Evolution) bool { return y.What&api.FieldOther != 0 }) {
			return
		}
		if x.e == api.ErrLong {
			n["too great"]++
			return
		}
		if x.e != api.OK {
			t.Fatal(told(x.fields), x.e)
		}
		back, e := r.Back(x.made)
		if e != api.ErrLong && (e != api.OK || !value.Same(back, x.fields)) {
			t.Errorf("%s became %s, and back %s, %d", told(x.fields), told(x.made), told(back), e)
		}
		n["back"]++
		for _, y := range l {
			if y.What&api.FieldNamed != 0 {
				n["renamed"]++
			}
			if y.What&api.FieldWider != 0 {
				n["wider"]++
			}
		}
	})
	count(t, n, 500, "back", "renamed", "wider")
}

// P8.9: by hand: with a field more, under other names, wider; with FieldOther it need not be.
func TestThereAndBackByHand(t *testing.T) {
	for _, x := range []struct{ one, two, fields, back string }{
		{"a: int b: text", "b: text | nil c: any was a d: int = 3", `{a: 1, b: "x"}`, `{a: 1, b: "x"}`},
		{"a: int", "b: int was a c: int was a", "{a: 1}", "{a: 1}"},
		{"a: any = 1", "a: int = 2", "{a: nil}", "{a: 2}"},
	} {
		s := made(t, "class p 1 {"+x.one+"} class p 2 {"+x.two+"}")
		c := auto(t, s, 1, 2)
		d, e := c.Convert(dict(x.fields))
		if e != api.OK {
			t.Fatal(e)
		}
		mustGoBack(t, c, d, dict(x.back))
	}
}
