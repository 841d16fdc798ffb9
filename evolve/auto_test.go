package evolve_test

import (
	"testing"

	"tenon/api"
	"tenon/evolve"
	"tenon/sample"
	"tenon/schema"
	"tenon/value"
)

// bridged is what class p's converters from version 1 to 2, and back, can; "-": there is none, since something is needed.
type bridged struct{ one, two, there, back string }

// P8.5, P8.8: just the abilities that it has, in all four sets, asked by assertion.
func TestAbilities(t *testing.T) {
	for _, x := range []bridged{
		{"", "", "reversible", "reversible"},
		{"a: int", "a: int", "reversible", "reversible"},
		{"a: int", "b: int was a", "reversible", "reversible"},
		{"a: int", "a: any", "reversible", "partial reversible"},
		{"a: int", "b: any was a", "reversible", "partial reversible"},
		{"a: int = 1", "a: any", "reversible", "reversible"}, // back: what is no int becomes the default
		{"a: int", "a: any = 1", "reversible", "partial reversible"},
		{"a: int", "a: int b: int = 1", "reversible", ""}, // back: b is gone
		{"a: int", "a: any b: int = 1", "reversible", "partial"},
		{"a: int b: int", "a: int", "", "-"}, // there: b is gone, and needed on the way back
		{"a: int b: int = 1", "a: int", "", "reversible"},
		{"a: any b: int = 1", "a: int", "partial", "reversible"},
		{"a: any b: int", "a: int", "partial", "-"},
		{"a: int", "a: text", "-", "-"},
		{"a: int", `a: text = ""`, "", "-"}, // nothing is gone, but a is needed on the way back
		{"a: int = 1", `a: text = ""`, "reversible", "reversible"},
		{"a: int = 1", "a: text", "-", ""}, // back: a is needed on the way there
		{"a: any b: int", `a: int b: text = ""`, "partial", "-"},
		{"a: list", "a: [any]", "partial reversible", "reversible"},
		{"a: any", "a: none", "partial reversible", "reversible"},
		{"a: int | text", "a: text | int", "reversible", "reversible"},
		{"a: int", "b: int was a c: int was a", "reversible", ""},
		{"a: int", "b: text = \"\" was a c: int was a", "", "-"}, // a would come from b
		{"a: int", "b: any was a c: int was a", "reversible", "partial"},
		{"a: int = 1", "b: int was x", "-", ""},
		{"a: int = 1", "b: int = 1 was x", "", ""},
		{"a: any b: any = 1", "b: int was a", "partial", "-"}, // it is the later default that counts
		{"a: any b: any", "b: int was a", "partial", "-"},
		{"a: any = 1 b: any", "b: int was a", "partial", "reversible"},
	} {
		s := made(t, "class p 1 {"+x.one+"} class p 2 {"+x.two+"}")
		for i, want := range []string{x.there, x.back} {
			from, to := 1+i, 2-i
			if want == "-" {
				if c, e := evolve.Auto(s, "p", from, to); c != nil || e != api.ErrNeeds {
					t.Errorf("%s: %v, %d", classesOf(s, "p"), c, e)
				}
				continue
			}
			if got := abilities(auto(t, s, from, to)); got != want {
				t.Errorf("%sAuto(%d, %d): %q, want %q", classesOf(s, "p"), from, to, got, want)
			}
		}
	}
}

// P8.5: ErrNeeds, and behind it ErrAbstract, on either side; a parent that is Abstract plays no part.
func TestAutoAbstract(t *testing.T) {
	s := made(t, `
		class p 1 { a: int }
		class p 2 abstract { a: int }
		class p 3 abstract { a: int }
		class p 4 { a: text }
		class p 5 : p 3 { }`)
	for _, x := range []struct {
		from, to int
		want     api.Errno
	}{{1, 2, api.ErrAbstract}, {2, 1, api.ErrAbstract}, {2, 3, api.ErrAbstract}, {2, 4, api.ErrNeeds}, {4, 2, api.ErrNeeds}, {1, 4, api.ErrNeeds}, {2, 2, api.ErrArg}, {3, 9, api.ErrClass}, {1, 5, api.OK}, {5, 1, api.OK}, {5, 3, api.ErrAbstract}} {
		if c, e := evolve.Auto(s, "p", x.from, x.to); e != x.want || (c == nil) != (e != api.OK) {
			t.Error(x, c, e)
		}
	}
	mustConvert(t, auto(t, s, 1, 5), dict("{a: 3}"), dict("{a: 3}"))
}

// P8.5: what each later field holds: what it comes from, if that is of its type; else its default.
func TestConvert(t *testing.T) {
	for _, x := range []struct{ one, two, fields, want string }{
		{"", "", "{}", "{}"},
		{"a: int", "", "{a: 1}", "{}"},
		{"", `a: int = 1 b: text = "x"`, "{}", `{a: 1, b: "x"}`},
		{"", "a: int = nil", "{}", "{a: nil}"}, // a default that is not of its type stands there all the same
		{"a: int", "a: int", "{a: 1}", "{a: 1}"},
		{"a: int", "b: int was a", "{a: 1}", "{b: 1}"},
		{"b: int", "a: int was b", "{b: 1}", "{a: 1}"},
		{"a: int", "b: int = 9 was a", "{a: 1}", "{b: 1}"},
		{"a: int b: int", "c: int was b d: int was a", "{a: 1, b: 2}", "{c: 2, d: 1}"},
		{"a: int b: int", "a: int was b b: int was a", "{a: 1, b: 2}", "{a: 1, b: 2}"},
		{"a: int", "b: int was a c: int was a", "{a: 1}", "{b: 1, c: 1}"},
		{"a: [any]", "a: [any] b: int = 3", `{a: [1, {b: "x"}, q/1{c: #01}]}`, `{a: [1, {b: "x"}, q/1{c: #01}], b: 3}`},
		{"a: any", "a: int", "{a: 1}", "{a: 1}"},
		{"a: any", "a: int = 9", "{a: 1}", "{a: 1}"},
		{"a: any", "a: int = 9", "{a: nil}", "{a: 9}"},
		{"a: any", "a: int = 9", "{a: 0x0p+00}", "{a: 9}"},
		{"a: any", "a: int = nil", "{a: nil}", "{a: nil}"},
		{"a: any", `a: int = "x"`, "{a: nil}", `{a: "x"}`},
		{"a: int", `a: text = "x"`, "{a: 1}", `{a: "x"}`},
		{"a: int", `a: text = "x"`, `{a: "y"}`, `{a: "y"}`}, // the fields need not conform to the earlier version
		{"a: int", "a: int | nil", "{a: nil}", "{a: nil}"},
		{"a: int", "b: text | nil = nil was a c: int was a", "{a: 1}", "{b: nil, c: 1}"},
		{"a: int b: int", "b: any", `{a: "x", b: "y"}`, `{b: "y"}`}, // what is gone may hold anything
	} {
		s := made(t, "class p 1 {"+x.one+"} class p 2 {"+x.two+"}")
		mustConvert(t, auto(t, s, 1, 2), dict(x.fields), dict(x.want))
	}
}

// P8.5: likewise down, over several versions, and with the fields of parents.
func TestConvertFar(t *testing.T) {
	s := made(t, `
		class q 1 { x: int = 1 }
		class q 2 { y: int = 2 was x }
		class p 1 : q 1 { a: int = 3 }
		class p 2 : q 2 { b: any = 4 was a }
		class p 3 : q 2 { a: int = 5 }`)
	mustConvert(t, auto(t, s, 1, 2), dict("{a: 10, x: 11}"), dict("{b: 10, y: 11}"))
	mustConvert(t, auto(t, s, 2, 1), dict("{b: 10, y: 11}"), dict("{a: 10, x: 11}"))
	mustConvert(t, auto(t, s, 2, 1), dict("{b: nil, y: 11}"), dict("{a: 3, x: 11}"))
	mustConvert(t, auto(t, s, 1, 3), dict("{a: 10, x: 11}"), dict("{a: 10, y: 2}"))
	mustConvert(t, auto(t, s, 3, 1), dict("{a: 10, y: 11}"), dict("{a: 10, x: 1}"))
	mustConvert(t, auto(t, s, 2, 3), dict("{b: 10, y: 11}"), dict("{a: 5, y: 11}"))
	mustConvert(t, auto(t, s, 3, 2), dict("{a: 10, y: 11}"), dict("{b: 4, y: 11}"))
}

// P8.5: fields whose names are not just the earlier ones.
func TestConvertFields(t *testing.T) {
	s := made(t, "class q 1 { m: any } class p 1 : q 1 { b: any d: any = 1 } class p 2 { b: int d: any = 1 m: any }")
	c := auto(t, s, 1, 2)
	mustConvert(t, c, dict("{b: 1, d: 2, m: 3}"), dict("{b: 1, d: 2, m: 3}"))
	for _, x := range []string{"{}", "{b: 1}", "{b: 1, d: 1}", "{d: 1, m: 1}", "{b: 1, m: 1}", "{a: 1, b: 1, d: 1, m: 1}", "{b: 1, c: 1, d: 1, m: 1}", "{b: 1, d: 1, m: 1, n: 1}", "{b: 1, c: 1, m: 1}", "{b: 1, d: 1, n: 1}", "{a: 1, d: 1, m: 1}", "{b: nil, d: 1}"} {
		mustRefuse(t, c, dict(x), api.ErrFields)
	}
	mustRefuse(t, c, nil, api.ErrFields)
	mustRefuse(t, c, dict("{b: nil, d: 1, m: 1}"), api.ErrMisfit)
	empty := auto(t, made(t, "class p 1 { } class p 2 { }"), 1, 2)
	mustConvert(t, empty, nil, nil)
	mustConvert(t, empty, api.Dict{}, api.Dict{})
	mustRefuse(t, empty, dict("{b: 1}"), api.ErrFields)
}

// P8.5: values that are not of the later type, of a field without a default, among others that are.
func TestConvertMisfit(t *testing.T) {
	s := made(t, `class p 1 { a: any b: any c: any } class p 2 { a: int = 1 b: [int] d: text | nil was c }`)
	c := auto(t, s, 1, 2)
	mustHave(t, c, "partial reversible")
	mustConvert(t, c, dict("{a: 2, b: [], c: nil}"), dict("{a: 2, b: [], d: nil}"))
	mustConvert(t, c, dict(`{a: nil, b: [3], c: ""}`), dict(`{a: 1, b: [3], d: ""}`))
	for _, x := range []string{"{a: 1, b: nil, c: nil}", "{a: 1, b: [nil], c: nil}", "{a: 1, b: [1, 2, 0x0p+00], c: nil}", "{a: 1, b: [], c: 1}", "{a: nil, b: nil, c: 1}", "{a: 1, b: {}, c: []}"} {
		mustRefuse(t, c, dict(x), api.ErrMisfit)
	}
}

// P8.5: value.Check's error comes first, of whatever can't be.
func TestConvertWrong(t *testing.T) {
	s := made(t, "class p 1 { a: any b: any } class p 2 { a: int b: any }")
	for _, c := range []api.Converter{auto(t, s, 1, 2), auto(t, s, 2, 1)} {
		for _, x := range sample.Wrongs() {
			for _, d := range []api.Dict{{sample.Field("a", x.V), sample.Field("b", nil)}, {sample.Field("a", nil), sample.Field("b", x.V)}, {sample.Field("z", x.V)}, {sample.Field("a", api.List{nil, x.V})}} {
				_, want := value.Check(d)
				mustRefuse(t, c, d, want)
				if r, ok := c.(api.Reversible); ok {
					if got, e := r.Back(d); got != nil || e != want {
						t.Error(x.Name, got, e)
					}
				}
			}
			if d, ok := x.V.(api.Dict); ok {
				mustRefuse(t, c, d, x.Why)
			}
		}
		mustRefuse(t, c, api.Dict{sample.Field("b", nil), sample.Field("a", nil)}, api.ErrName)
		mustRefuse(t, c, api.Dict{sample.Field("a", nil), sample.Field("a", nil)}, api.ErrName)
		mustRefuse(t, c, api.Dict{sample.Field("a", nil), sample.Field("B", nil)}, api.ErrName)
	}
}

// P8.5, P8.8: what comes is too great by one part, or too deep by one; that is told behind ErrMisfit.
func TestConvertTooGreat(t *testing.T) {
	s := made(t, "class p 1 { a: any } class p 2 { b: any was a c: any was a } class p 3 { b: int c: any }")
	c := auto(t, s, 1, 2)
	mustHave(t, c, "reversible")
	half, over := sized(api.MaxNodes/2-1), sized(api.MaxNodes/2)
	mustConvert(t, c, api.Dict{sample.Field("a", half)}, api.Dict{sample.Field("b", half), sample.Field("c", half)})
	mustRefuse(t, c, api.Dict{sample.Field("a", over)}, api.ErrLong)
	mustRefuse(t, c, api.Dict{sample.Field("a", sized(api.MaxNodes-1))}, api.ErrLong)
	mustRefuse(t, c, api.Dict{sample.Field("a", sized(api.MaxNodes))}, api.ErrLong) // it is too great itself
	mustGoBack(t, c, api.Dict{sample.Field("b", half), sample.Field("c", over)}, api.Dict{sample.Field("a", half)})

	deep, deeper := sample.Within(api.MaxDepth-1, nil), sample.Within(api.MaxDepth, nil)
	for _, x := range []struct {
		rest any
		want api.Errno
	}{{deep, api.OK}, {deeper, api.ErrLong}, {sized(api.MaxNodes - 2), api.OK}, {sized(api.MaxNodes - 1), api.ErrLong}, {sized(api.MaxNodes), api.ErrLong}} {
		s := defined(t, sample.Class("p", 1, sample.FieldOf("a", typ("any"))), sample.Class("p", 2, sample.FieldOf("a", typ("int")), sample.With(sample.FieldOf("b", typ("list")), x.rest)))
		c := auto(t, s, 1, 2)
		if d, e := c.Convert(dict("{a: 1}")); e != x.want || e == api.OK && !value.Same(d, api.Dict{sample.Field("a", int64(1)), sample.Field("b", x.rest)}) {
			t.Error(told(d), e)
		}
		mustTake(t, c, dict("{a: 1}"), x.want)
		mustRefuse(t, c, dict("{a: nil}"), api.ErrMisfit)
		mustRefuse(t, c, dict("{b: nil}"), api.ErrFields)
	}
}

// P8.5: many fields that come from one great value are told to be too great without much ado.
func TestConvertManyTooGreat(t *testing.T) {
	fields := sample.SomeFields(0, api.MaxItems)
	for i := range fields {
		fields[i].Was = "a"
	}
	s := defined(t, sample.Class("p", 1, sample.Some("a")), sample.Class("p", 2, fields...))
	c := auto(t, s, 1, 2)
	mustRefuse(t, c, api.Dict{sample.Field("a", sized(2000))}, api.ErrLong)
	mustRefuse(t, c, api.Dict{sample.Field("a", api.List{nil, nil, nil})}, api.ErrLong)
	d, e := c.Convert(api.Dict{sample.Field("a", api.List{nil, nil})})
	if len(d) != api.MaxItems || e != api.OK {
		t.Error(len(d), e)
	}
}

// P8.5: Back is what Convert of the converter the other way answers, errors too.
func TestBack(t *testing.T) {
	s := made(t, "class p 1 { a: any = 1 b: any } class p 2 { a: int = 2 c: int was b d: int = 3 }")
	c, other := auto(t, s, 1, 2), auto(t, s, 2, 1)
	mustHave(t, c, "partial reversible")
	mustHave(t, other, "")
	r := c.(api.Reversible)
	for _, d := range []api.Dict{dict("{a: 5, c: 6, d: 7}"), dict(`{a: "x", c: nil, d: []}`), dict("{a: 5, b: 6, d: 7}"), dict("{}"), nil, {sample.Field("a", 7)}, {sample.Field("a", sample.Nobody())}, {sample.Field("A", nil)}} {
		got, e := r.Back(d)
		want, we := other.Convert(d)
		if !value.Same(got, want) || (got == nil) != (want == nil) || e != we {
			t.Errorf("Back(%s): %s, %d, want %s, %d", told(d), told(got), e, told(want), we)
		}
	}
	mustGoBack(t, c, dict("{a: 5, c: 6, d: 7}"), dict("{a: 5, b: 6}"))
	if d, e := r.Back(dict("{a: 5, b: 6}")); d != nil || e != api.ErrFields {
		t.Error(d, e)
	}
}

// P8.5: what is defined later plays no part.
func TestDefinedLater(t *testing.T) {
	s := made(t, "class q 1 { x: int = 1 } class p 1 : q 1 { a: any } class p 2 : q 1 { b: int = 2 was a }")
	there, back := auto(t, s, 1, 2), auto(t, s, 2, 1)
	see := func() {
		t.Helper()
		mustHave(t, there, "reversible")
		mustHave(t, back, "reversible")
		mustConvert(t, there, dict(`{a: "x", x: 5}`), dict("{b: 2, x: 5}"))
		mustGoBack(t, there, dict("{b: 7, x: 5}"), dict("{a: 7, x: 5}"))
		mustConvert(t, back, dict("{b: 7, x: 5}"), dict("{a: 7, x: 5}"))
		mustGoBack(t, back, dict("{a: nil, x: 5}"), dict("{b: 2, x: 5}"))
		mustRefuse(t, there, dict("{a: 1}"), api.ErrFields)
		mustChange(t, s, 1, 2, "b<a 52", "")
	}
	see()
	later, _, _ := schema.Parse(`class q 2 { x: text z: int } class p 3 : q 2 { a: text b: text was a } class p 4 { } class a 1 { a: any }`)
	for _, c := range later {
		if e := s.Define(c); e != api.OK {
			t.Fatal(e)
		}
		see()
	}
}

// Each converter knows nothing of others, and answers the same whenever it is asked.
func TestAgain(t *testing.T) {
	s := made(t, "class p 1 { a: any } class p 2 { a: int b: int = 2 } class p 3 { a: any b: int = 3 }")
	l := []api.Converter{auto(t, s, 1, 2), auto(t, s, 1, 3), auto(t, s, 2, 3), auto(t, s, 1, 2)}
	for range 3 {
		mustConvert(t, l[0], dict("{a: 1}"), dict("{a: 1, b: 2}"))
		mustConvert(t, l[1], dict("{a: nil}"), dict("{a: nil, b: 3}"))
		mustConvert(t, l[2], dict("{a: 1, b: 5}"), dict("{a: 1, b: 5}"))
		mustRefuse(t, l[3], dict("{a: nil}"), api.ErrMisfit)
		mustRefuse(t, l[0], dict("{a: 1, b: 2}"), api.ErrFields)
	}
}

// Converters can be compared, as those who keep them may do.
func TestCompared(t *testing.T) {
	s := made(t, "class p 1 { a: any } class p 2 { a: int } class p 3 { a: int b: int = 1 } class p 4 { a: any }")
	for _, way := range [][2]int{{1, 2}, {2, 1}, {3, 2}, {1, 3}, {3, 4}, {4, 1}} {
		c, other := auto(t, s, way[0], way[1]), auto(t, s, way[0], way[1])
		if same := c; same != c || c == other {
			t.Error(way, "is not told apart")
		}
	}
}

// The chapter's examples.
func TestAutoExamples(t *testing.T) {
	s := made(t, "class p 1 { name: text } class p 2 { age: int = 0 name: text | nil }")
	c, back := auto(t, s, 1, 2), auto(t, s, 2, 1)
	mustConvert(t, c, dict(`{name: "ann"}`), dict(`{age: 0, name: "ann"}`))
	mustHave(t, c, "reversible")
	mustHave(t, back, "partial")
	mustConvert(t, back, dict(`{age: 5, name: "ann"}`), dict(`{name: "ann"}`))
	mustRefuse(t, back, dict("{age: 5, name: nil}"), api.ErrMisfit)
	s = made(t, "class p 1 { name: text } class p 2 { full: text was name }")
	mustHave(t, auto(t, s, 1, 2), "reversible")
	s = made(t, "class p 1 { name: text } class p 2 { age: int name: text }")
	if c, e := evolve.Auto(s, "p", 1, 2); c != nil || e != api.ErrNeeds {
		t.Error(c, e)
	}
}
