package schema_test

import (
	"math/rand"
	"slices"
	"strings"
	"testing"

	"tenon/api"
	"tenon/sample"
	"tenon/schema"
)

// P6.7: ParseType(PrintType(t)) is t, but for what plays no part.
func TestTypesThereAndBack(t *testing.T) {
	all := sample.Types()
	r := rand.New(rand.NewSource(7))
	for range 2000 {
		all = append(all, sample.AnyhowType(r.Intn, 5))
	}
	for _, x := range all {
		s, e := schema.PrintType(sample.Cluttered(x))
		if e != api.OK {
			t.Fatal(e)
		}
		mustReadType(t, s, x)
		back, _, _ := schema.ParseType(s)
		if again, e := schema.PrintType(back); again != s || e != api.OK {
			t.Errorf("%s: %s, %d", short(s), short(again), e)
		}
	}
}

// cluttered is the same classes with something in all that plays no part.
func cluttered(l []api.Class) []api.Class {
	out := slices.Clone(l)
	for i := range out {
		out[i].Fields = slices.Clone(out[i].Fields)
		for j, f := range out[i].Fields {
			if f.Has {
				f.Default = sample.ClutteredTerm(f.Default)
			} else {
				f.Default = api.Term{Kind: 99, Int: 7}
			}
			f.Type = sample.Cluttered(f.Type)
			out[i].Fields[j] = f
		}
	}
	return out
}

// P6.7: Parse(Print(l)) is l, but for what plays no part.
func TestClassesThereAndBack(t *testing.T) {
	r := rand.New(rand.NewSource(8))
	for range 1000 {
		var l []api.Class
		for range r.Intn(4) {
			l = append(l, anyClass(r))
		}
		s, e := schema.Print(cluttered(l))
		if e != api.OK {
			t.Fatal(e)
		}
		mustRead(t, s, l...)
	}
	var all []api.FieldOf
	for i, f := range someFields(0, len(sample.Types())) {
		f.Type = sample.Types()[i]
		all = append(all, f)
	}
	s, _ := schema.Print([]api.Class{class("a", 1, all...)})
	mustRead(t, s, class("a", 1, all...))
}

// blanked is a text that Print told, with other blanks: at least one where one parts two words.
func blanked(r *rand.Rand, s string) string {
	blanks := func() string {
		b := ""
		for range r.Intn(4) {
			b += string(" \t\n\r"[r.Intn(4)])
		}
		return b
	}
	var b strings.Builder
	for i := range len(s) {
		switch c := s[i]; {
		case c == ' ' || c == '\n':
			b.WriteString("\t" + blanks())
		case strings.IndexByte("{}[],:?|=", c) >= 0:
			b.WriteString(blanks() + string(c) + blanks())
		default:
			b.WriteByte(c)
		}
	}
	return b.String()
}

// P6.7: Print(Parse(s)) does not hang on blanks.
func TestBlanksPlayNoPart(t *testing.T) {
	r := rand.New(rand.NewSource(9))
	for range 1000 {
		l := []api.Class{anyClass(r), anyClass(r)}
		want, _ := schema.Print(l)
		s := blanked(r, want)
		back, at, e := schema.Parse(s)
		if got, _ := schema.Print(back); e != api.OK || got != want {
			t.Fatalf("%q: %q, %d, %d", s, got, at, e)
		}
		x := sample.AnyhowType(r.Intn, 4)
		want, _ = schema.PrintType(x)
		s = blanked(r, want)
		y, at, e := schema.ParseType(s)
		if got, _ := schema.PrintType(y); e != api.OK || got != want {
			t.Fatalf("%q: %q, %d, %d", s, got, at, e)
		}
	}
}

// P6.8: what is told of a version that is there stays, whatever is defined later; a refused Define changes nothing.
func TestOnlyGrows(t *testing.T) {
	for seed := range int64(12) {
		r := rand.New(rand.NewSource(seed))
		var s schema.Schema
		first := map[[2]any]string{} // what was told of a version when it had come
		for range 60 {
			c := anyClass(r)
			if r.Intn(2) == 0 {
				c.Version = s.Latest(c.Name) + 1
			}
			before := told(&s, modelNames...)
			e := s.Define(c)
			if e != api.OK && told(&s, modelNames...) != before {
				t.Fatal("refused, and not as before:", seed, e)
			}
			if e == api.OK {
				first[[2]any{c.Name, c.Version}] = toldOf(&s, c.Name, c.Version, modelNames...)
			}
			for v, want := range first {
				if got := toldOf(&s, v[0].(string), v[1].(int), modelNames...); got != want {
					t.Fatalf("seed %d: of %v is told %s, and was %s", seed, v, short(got), short(want))
				}
			}
		}
	}
}

// P6.10: two Defines of classes of other names, neither the other one's parent, come to the same in either order.
func TestApart(t *testing.T) {
	r := rand.New(rand.NewSource(10))
	tried := 0
	for tried < 500 {
		var begun []api.Class
		for range r.Intn(12) {
			begun = append(begun, anyClass(r))
		}
		x, y := anyClass(r), anyClass(r)
		if x.Name == y.Name || x.Parent == y.Name || y.Parent == x.Name {
			continue
		}
		tried++
		var s, o schema.Schema
		for _, c := range begun {
			s.Define(c)
			o.Define(c)
		}
		if r.Intn(2) == 0 {
			x.Version, y.Version = s.Latest(x.Name)+1, s.Latest(y.Name)+1
		}
		sx, sy := s.Define(x), s.Define(y)
		oy, ox := o.Define(y), o.Define(x)
		if sx != ox || sy != oy || told(&s, modelNames...) != told(&o, modelNames...) {
			t.Fatal(sx, ox, sy, oy)
		}
	}
}

// Two Schemas know nothing of one another.
func TestTwoSchemas(t *testing.T) {
	var s, o schema.Schema
	mustDefine(t, &s, class("a", 1), api.OK)
	mustDefine(t, &o, class("a", 2), api.ErrGap)
	mustDefine(t, &o, child("b", 1, "a", 1), api.ErrParent)
	mustDefine(t, &o, class("b", 1, some("x")), api.OK)
	if s.Latest("b") != 0 || o.Latest("a") != 0 || len(s.Names()) != 1 || len(o.Names()) != 1 {
		t.Error(s.Names(), o.Names())
	}
}
